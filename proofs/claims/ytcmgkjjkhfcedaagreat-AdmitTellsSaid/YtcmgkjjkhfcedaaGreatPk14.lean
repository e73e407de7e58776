/-
  What the walks lean on, part 14: AmTold GrowShelf.
-/
import Derived.Shelf.Spec.SlicesGrow
import Derived.Test.YtcmgkjjkhfcedaaGreatProg
import Derived.Test.YtcmgkjjkhfcedaaGreatPk13
/-
  The program's admit (stage 18): which tasks count for another, and what is told of each (written by tools/gen/amtold.py).
-/
namespace Go.Proofs.YtcmgkjjkhfcedaaGreat
open Go.ChangeShapes Go.WideShapes Go.ChangeAt Go.RowKit
set_option linter.unusedVariables false
set_option linter.unusedSimpArgs false
/-- Whether a task's jobs may be as urgent as another's: by class and level. -/
def urgP (rc rl c l : Int) : Bool := decide (0 ≤ cmpP ⟨c, l, 0⟩ ⟨rc, rl, 0⟩)
set_option maxRecDepth 10000 in
set_option maxHeartbeats 8000000 in
theorem acounts_any (w : World) (rcls rlev rper rdl rbud rline : Int) (rua : Option Addr) (run ruc : Nat) (rqa : Option Addr) (rqn rqc : Nat) (cls lev per dl bud line : Int) (ua : Option Addr) (un uc : Nat) (qa : Option Addr) (qn qc : Nat) :
    Calls Tryz.prog 33 #[.agg #[.int .i64 rcls, .int .i64 rlev, .int .i64 rper, .int .i64 rdl, .int .i64 rbud, .int .i64 rline, .slice rua run ruc, .slice rqa rqn rqc], .agg #[.int .i64 cls, .int .i64 lev, .int .i64 per, .int .i64 dl, .int .i64 bud, .int .i64 line, .slice ua un uc, .slice qa qn qc]] w fun e w' => e = .returned (.bool (urgP rcls rlev cls lev)) ∧ Below w.heap.size w w' := by
  obtain ⟨w2, hw2⟩ : ∃ z, z = (w.alloc (.cells #[.int .i64 rcls, .int .i64 rlev, .int .i64 rper, .int .i64 rdl, .int .i64 rbud, .int .i64 rline, .slice rua run ruc, .slice rqa rqn rqc] 70)).alloc (.cells #[.int .i64 cls, .int .i64 lev, .int .i64 per, .int .i64 dl, .int .i64 bud, .int .i64 line, .slice ua un uc, .slice qa qn qc] 47) := ⟨_, rfl⟩
  have eA : w2.heap[w.heap.size]? = some (.cells #[.int .i64 rcls, .int .i64 rlev, .int .i64 rper, .int .i64 rdl, .int .i64 rbud, .int .i64 rline, .slice rua run ruc, .slice rqa rqn rqc] 70 (0, 0)) := by rw [hw2]; exact heap_alloc2_old _ _ _
  have eB : w2.heap[w.heap.size + 1]? = some (.cells #[.int .i64 cls, .int .i64 lev, .int .i64 per, .int .i64 dl, .int .i64 bud, .int .i64 line, .slice ua un uc, .slice qa qn qc] 47 (0, 0)) := by rw [hw2]; exact heap_alloc2_new _ _ _
  have B0 := hide (show Below w.heap.size w w2 from by rw [hw2]; exact ((Below.refl _ _).alloc (Nat.le_refl _) _).alloc (by simp) _)
  have SC := hide (show ∀ Y : World, Below w2.heap.size w2 Y → Y.cell? ⟨w.heap.size, 0, none⟩ = some (.int .i64 rcls) ∧ Y.cell? ⟨w.heap.size, 1, none⟩ = some (.int .i64 rlev) ∧ Y.cell? ⟨w.heap.size, 2, none⟩ = some (.int .i64 rper) ∧ Y.cell? ⟨w.heap.size, 3, none⟩ = some (.int .i64 rdl) ∧ Y.cell? ⟨w.heap.size, 4, none⟩ = some (.int .i64 rbud) ∧ Y.cell? ⟨w.heap.size, 5, none⟩ = some (.int .i64 rline) ∧ Y.cell? ⟨w.heap.size, 6, none⟩ = some (.slice rua run ruc) ∧ Y.cell? ⟨w.heap.size, 7, none⟩ = some (.slice rqa rqn rqc) ∧ Y.cell? ⟨w.heap.size + 1, 0, none⟩ = some (.int .i64 cls) ∧ Y.cell? ⟨w.heap.size + 1, 1, none⟩ = some (.int .i64 lev) ∧ Y.cell? ⟨w.heap.size + 1, 2, none⟩ = some (.int .i64 per) ∧ Y.cell? ⟨w.heap.size + 1, 3, none⟩ = some (.int .i64 dl) ∧ Y.cell? ⟨w.heap.size + 1, 4, none⟩ = some (.int .i64 bud) ∧ Y.cell? ⟨w.heap.size + 1, 5, none⟩ = some (.int .i64 line) ∧ Y.cell? ⟨w.heap.size + 1, 6, none⟩ = some (.slice ua un uc) ∧ Y.cell? ⟨w.heap.size + 1, 7, none⟩ = some (.slice qa qn qc) from fun Y b => by
    have e1 := (b.block _ (lt_of_heap eA)).trans eA
    have e2 := (b.block _ (lt_of_heap eB)).trans eB
    refine ⟨?_, ?_, ?_, ?_, ?_, ?_, ?_, ?_, ?_, ?_, ?_, ?_, ?_, ?_, ?_, ?_⟩ <;> first | (rw [cell_of_row _ _ _ _ _ _ e1]; rfl) | (rw [cell_of_row _ _ _ _ _ _ e2]; rfl))
  have HW := hide hw2
  clear hw2 eA eB
  obtain ⟨m, hm⟩ : ∃ m, m = cmpP ⟨cls, lev, 0⟩ ⟨rcls, rlev, 0⟩ := ⟨_, rfl⟩
  have I1 := hide (fun W => abase_any W cls lev per dl bud line ua un uc qa qn qc)
  have I2 := hide (fun W => abase_any W rcls rlev rper rdl rbud rline rua run ruc rqa rqn rqc)
  have I3 := hide (show ∀ W, Calls Tryz.prog 66 #[.agg #[.int .i64 cls, .int .i64 lev, .int .i64 0], .agg #[.int .i64 rcls, .int .i64 rlev, .int .i64 0]] W fun e w' => e = .returned (.int .i64 m) ∧ Below W.heap.size W w' from fun W => by rw [hm]; exact pcmp_any W cls lev 0 rcls rlev 0)
  have RS := hide (show urgP rcls rlev cls lev = decide (0 ≤ m) from by rw [hm]; rfl)
  rw [RS.out]
  have E2 := hide (show Below w2.heap.size w2 w2.drew from below_drewN (Below.refl _ _) 1)
  clear hm
  obtain ⟨k0, k1, k2, k3, k4, k5, k6, k7, z0, z1, z2, z3, z4, z5, z6, z7⟩ := SC.out _ E2.out
  go_enter Tryz.func33, Tryz.ntmps33
  go_upto_region 1 with fail
  rw [← HW.out]
  go_region_held3 (fun W => W.cell? ⟨w.heap.size, 0, none⟩ = some (.int .i64 rcls) ∧ W.cell? ⟨w.heap.size, 1, none⟩ = some (.int .i64 rlev) ∧ W.cell? ⟨w.heap.size, 2, none⟩ = some (.int .i64 rper) ∧ W.cell? ⟨w.heap.size, 3, none⟩ = some (.int .i64 rdl) ∧ W.cell? ⟨w.heap.size, 4, none⟩ = some (.int .i64 rbud) ∧ W.cell? ⟨w.heap.size, 5, none⟩ = some (.int .i64 rline) ∧ W.cell? ⟨w.heap.size, 6, none⟩ = some (.slice rua run ruc) ∧ W.cell? ⟨w.heap.size, 7, none⟩ = some (.slice rqa rqn rqc) ∧ W.cell? ⟨w.heap.size + 1, 0, none⟩ = some (.int .i64 cls) ∧ W.cell? ⟨w.heap.size + 1, 1, none⟩ = some (.int .i64 lev) ∧ W.cell? ⟨w.heap.size + 1, 2, none⟩ = some (.int .i64 per) ∧ W.cell? ⟨w.heap.size + 1, 3, none⟩ = some (.int .i64 dl) ∧ W.cell? ⟨w.heap.size + 1, 4, none⟩ = some (.int .i64 bud) ∧ W.cell? ⟨w.heap.size + 1, 5, none⟩ = some (.int .i64 line) ∧ W.cell? ⟨w.heap.size + 1, 6, none⟩ = some (.slice ua un uc) ∧ W.cell? ⟨w.heap.size + 1, 7, none⟩ = some (.slice qa qn qc)) (first | exact SC.out _ E2.out | exact SC.out _ D3.out | exact SC.out _ D4.out | exact SC.out _ D5.out) (first
    | (go_at_call 62; with_reducible refine (I1.out w2.drew).mono ?_; rintro e w3 ⟨rfl, b3⟩; have D3 := hide (E2.out.trans (b3.mono E2.out.size)); clear b3)
    | (go_at_call 62; with_reducible refine (I2.out _).mono ?_; rintro e w4 ⟨rfl, b4⟩; have D4 := hide (D3.out.trans (b4.mono D3.out.size)); clear b4)
    | (go_at_call 66; refine (I3.out _).mono ?_; rintro e w5 ⟨rfl, b5⟩; have D5 := hide (D4.out.trans (b5.mono D4.out.size)); clear b5))
  all_goals
    go_wp2_with fail
    go_ret
    exact ⟨rfl, B0.out.trans (D5.out.mono B0.out.size)⟩
set_option maxHeartbeats 4000000 in
theorem afixed_any (w : World) (cls lev per dl bud line : Int) (ua : Option Addr) (un uc : Nat) (qa : Option Addr) (qn qc : Nat) :
    Calls Tryz.prog 48 #[.agg #[.int .i64 cls, .int .i64 lev, .int .i64 per, .int .i64 dl, .int .i64 bud, .int .i64 line, .slice ua un uc, .slice qa qn qc]] w fun e w' => e = .returned (.bool (decide (cls = 2))) ∧ Below w.heap.size w w' := by
  obtain ⟨w1, hw1⟩ : ∃ z, z = w.alloc (.cells #[.int .i64 cls, .int .i64 lev, .int .i64 per, .int .i64 dl, .int .i64 bud, .int .i64 line, .slice ua un uc, .slice qa qn qc] 47) := ⟨_, rfl⟩
  have bw1 : Below w.heap.size w w1 := by rw [hw1]; exact (Below.refl w.heap.size w).alloc (Nat.le_refl _) _
  have ew1 : w1.heap[w.heap.size]? = some (.cells #[.int .i64 cls, .int .i64 lev, .int .i64 per, .int .i64 dl, .int .i64 bud, .int .i64 line, .slice ua un uc, .slice qa qn qc] 47 (0, 0)) := by rw [hw1]; exact heap_alloc_new _ _
  have K0 := hide (fun (Y : World) (b : Below w1.heap.size w1 Y) => show Y.cell? ⟨w.heap.size, 0, none⟩ = some (.int .i64 cls) from by rw [cell_of_row _ _ _ _ _ _ ((b.block _ (lt_of_heap ew1)).trans ew1)]; rfl)
  have Bw1 := hide bw1
  have Hw1 := hide hw1
  clear hw1 bw1 ew1
  have y0 := K0.out _ (Below.refl _ _)
  go_enter Tryz.func48, Tryz.ntmps48
  go_upto_region 1 with fail
  rw [← Hw1.out]
  go_wp2_with fail
  go_ret
  exact ⟨ret_bool (by rw [Bool.eq_iff_iff]; simp), Bw1.out⟩
set_option maxHeartbeats 4000000 in
theorem aearly_any (w : World) (cls lev per dl bud line : Int) (ua : Option Addr) (un uc : Nat) (qa : Option Addr) (qn qc : Nat) :
    Calls Tryz.prog 52 #[.agg #[.int .i64 cls, .int .i64 lev, .int .i64 per, .int .i64 dl, .int .i64 bud, .int .i64 line, .slice ua un uc, .slice qa qn qc]] w fun e w' => e = .returned (.bool (decide (cls = 1))) ∧ Below w.heap.size w w' := by
  obtain ⟨w1, hw1⟩ : ∃ z, z = w.alloc (.cells #[.int .i64 cls, .int .i64 lev, .int .i64 per, .int .i64 dl, .int .i64 bud, .int .i64 line, .slice ua un uc, .slice qa qn qc] 47) := ⟨_, rfl⟩
  have bw1 : Below w.heap.size w w1 := by rw [hw1]; exact (Below.refl w.heap.size w).alloc (Nat.le_refl _) _
  have ew1 : w1.heap[w.heap.size]? = some (.cells #[.int .i64 cls, .int .i64 lev, .int .i64 per, .int .i64 dl, .int .i64 bud, .int .i64 line, .slice ua un uc, .slice qa qn qc] 47 (0, 0)) := by rw [hw1]; exact heap_alloc_new _ _
  have K0 := hide (fun (Y : World) (b : Below w1.heap.size w1 Y) => show Y.cell? ⟨w.heap.size, 0, none⟩ = some (.int .i64 cls) from by rw [cell_of_row _ _ _ _ _ _ ((b.block _ (lt_of_heap ew1)).trans ew1)]; rfl)
  have Bw1 := hide bw1
  have Hw1 := hide hw1
  clear hw1 bw1 ew1
  have y0 := K0.out _ (Below.refl _ _)
  go_enter Tryz.func52, Tryz.ntmps52
  go_upto_region 1 with fail
  rw [← Hw1.out]
  go_wp2_with fail
  go_ret
  exact ⟨ret_bool (by rw [Bool.eq_iff_iff]; simp), Bw1.out⟩
set_option maxHeartbeats 4000000 in
theorem auses_any (w : World) (cls lev per dl bud line : Int) (ua : Option Addr) (un uc : Nat) (qa : Option Addr) (qn qc : Nat) :
    Calls Tryz.prog 34 #[.agg #[.int .i64 cls, .int .i64 lev, .int .i64 per, .int .i64 dl, .int .i64 bud, .int .i64 line, .slice ua un uc, .slice qa qn qc]] w fun e w' => e = .returned (.slice ua un uc) ∧ Below w.heap.size w w' := by
  obtain ⟨w1, hw1⟩ : ∃ z, z = w.alloc (.cells #[.int .i64 cls, .int .i64 lev, .int .i64 per, .int .i64 dl, .int .i64 bud, .int .i64 line, .slice ua un uc, .slice qa qn qc] 47) := ⟨_, rfl⟩
  have bw1 : Below w.heap.size w w1 := by rw [hw1]; exact (Below.refl w.heap.size w).alloc (Nat.le_refl _) _
  have ew1 : w1.heap[w.heap.size]? = some (.cells #[.int .i64 cls, .int .i64 lev, .int .i64 per, .int .i64 dl, .int .i64 bud, .int .i64 line, .slice ua un uc, .slice qa qn qc] 47 (0, 0)) := by rw [hw1]; exact heap_alloc_new _ _
  have K0 := hide (fun (Y : World) (b : Below w1.heap.size w1 Y) => show Y.cell? ⟨w.heap.size, 6, none⟩ = some (.slice ua un uc) from by rw [cell_of_row _ _ _ _ _ _ ((b.block _ (lt_of_heap ew1)).trans ew1)]; rfl)
  have Bw1 := hide bw1
  have Hw1 := hide hw1
  clear hw1 bw1 ew1
  have y0 := K0.out _ (Below.refl _ _)
  go_enter Tryz.func34, Tryz.ntmps34
  go_upto_region 1 with fail
  rw [← Hw1.out]
  go_wp2_with fail
  go_ret
  exact ⟨rfl, Bw1.out⟩
theorem built_part18 (a b : Int) : Tryz.prog.built 36 [(0, .int .i64 a), (1, .int .i64 b)] = some #[.int .i64 a, .int .i64 b] := by kernel_rfl
attribute [local go_sem] built_part18
set_option maxHeartbeats 4000000 in
theorem apart1_any (w : World) (cls lev per dl bud line : Int) (ua : Option Addr) (un uc : Nat) (qa : Option Addr) (qn qc : Nat) :
    Calls Tryz.prog 47 #[.agg #[.int .i64 cls, .int .i64 lev, .int .i64 per, .int .i64 dl, .int .i64 bud, .int .i64 line, .slice ua un uc, .slice qa qn qc]] w fun e w' => e = .returned (.agg #[.int .i64 per, .int .i64 bud]) ∧ Below w.heap.size w w' := by
  go_enter Tryz.func47, Tryz.ntmps47
  go_wp2_with (refine wpList_build rfl 36 _ rfl (by kernel_rfl) ?_)
  exact bodyPost_ret (v := .agg #[.int .i64 per, .int .i64 bud]) (by simp [results, Tryz.results47, go_sem]) rfl ⟨rfl, ((Below.refl _ _).alloc (Nat.le_refl _) _).alloc (by simp) _⟩
theorem built_early18 (a b c : Int) : Tryz.prog.built 88 [(0, .int .i64 a), (1, .int .i64 b), (2, .int .i64 c)] = some #[.int .i64 a, .int .i64 b, .int .i64 c] := by kernel_rfl
attribute [local go_sem] built_early18
set_option maxHeartbeats 4000000 in
theorem ajob_any (w : World) (cls lev per dl bud line : Int) (ua : Option Addr) (un uc : Nat) (qa : Option Addr) (qn qc : Nat) :
    Calls Tryz.prog 53 #[.agg #[.int .i64 cls, .int .i64 lev, .int .i64 per, .int .i64 dl, .int .i64 bud, .int .i64 line, .slice ua un uc, .slice qa qn qc]] w fun e w' => e = .returned (.agg #[.int .i64 per, .int .i64 dl, .int .i64 bud]) ∧ Below w.heap.size w w' := by
  go_enter Tryz.func53, Tryz.ntmps53
  go_wp2_with (refine wpList_build rfl 88 _ rfl (by kernel_rfl) ?_)
  exact bodyPost_ret (v := .agg #[.int .i64 per, .int .i64 dl, .int .i64 bud]) (by simp [results, Tryz.results53, go_sem]) rfl ⟨rfl, ((Below.refl _ _).alloc (Nat.le_refl _) _).alloc (by simp) _⟩
set_option maxHeartbeats 4000000 in
theorem aahead_any (w : World) (rcls rlev rper rdl rbud rline : Int) (rua : Option Addr) (run ruc : Nat) (rqa : Option Addr) (rqn rqc : Nat) (cls lev per dl bud line : Int) (ua : Option Addr) (un uc : Nat) (qa : Option Addr) (qn qc : Nat) :
    Calls Tryz.prog 46 #[.agg #[.int .i64 rcls, .int .i64 rlev, .int .i64 rper, .int .i64 rdl, .int .i64 rbud, .int .i64 rline, .slice rua run ruc, .slice rqa rqn rqc], .agg #[.int .i64 cls, .int .i64 lev, .int .i64 per, .int .i64 dl, .int .i64 bud, .int .i64 line, .slice ua un uc, .slice qa qn qc]] w fun e w' => e = .returned (.bool (decide (cls = 2) && urgP rcls rlev cls lev)) ∧ Below w.heap.size w w' := by
  obtain ⟨w2, hw2⟩ : ∃ z, z = (w.alloc (.cells #[.int .i64 rcls, .int .i64 rlev, .int .i64 rper, .int .i64 rdl, .int .i64 rbud, .int .i64 rline, .slice rua run ruc, .slice rqa rqn rqc] 70)).alloc (.cells #[.int .i64 cls, .int .i64 lev, .int .i64 per, .int .i64 dl, .int .i64 bud, .int .i64 line, .slice ua un uc, .slice qa qn qc] 47) := ⟨_, rfl⟩
  have eA : w2.heap[w.heap.size]? = some (.cells #[.int .i64 rcls, .int .i64 rlev, .int .i64 rper, .int .i64 rdl, .int .i64 rbud, .int .i64 rline, .slice rua run ruc, .slice rqa rqn rqc] 70 (0, 0)) := by rw [hw2]; exact heap_alloc2_old _ _ _
  have eB : w2.heap[w.heap.size + 1]? = some (.cells #[.int .i64 cls, .int .i64 lev, .int .i64 per, .int .i64 dl, .int .i64 bud, .int .i64 line, .slice ua un uc, .slice qa qn qc] 47 (0, 0)) := by rw [hw2]; exact heap_alloc2_new _ _ _
  have B0 := hide (show Below w.heap.size w w2 from by rw [hw2]; exact ((Below.refl _ _).alloc (Nat.le_refl _) _).alloc (by simp) _)
  have SC := hide (show ∀ Y : World, Below w2.heap.size w2 Y → Y.cell? ⟨w.heap.size, 0, none⟩ = some (.int .i64 rcls) ∧ Y.cell? ⟨w.heap.size, 1, none⟩ = some (.int .i64 rlev) ∧ Y.cell? ⟨w.heap.size, 2, none⟩ = some (.int .i64 rper) ∧ Y.cell? ⟨w.heap.size, 3, none⟩ = some (.int .i64 rdl) ∧ Y.cell? ⟨w.heap.size, 4, none⟩ = some (.int .i64 rbud) ∧ Y.cell? ⟨w.heap.size, 5, none⟩ = some (.int .i64 rline) ∧ Y.cell? ⟨w.heap.size, 6, none⟩ = some (.slice rua run ruc) ∧ Y.cell? ⟨w.heap.size, 7, none⟩ = some (.slice rqa rqn rqc) ∧ Y.cell? ⟨w.heap.size + 1, 0, none⟩ = some (.int .i64 cls) ∧ Y.cell? ⟨w.heap.size + 1, 1, none⟩ = some (.int .i64 lev) ∧ Y.cell? ⟨w.heap.size + 1, 2, none⟩ = some (.int .i64 per) ∧ Y.cell? ⟨w.heap.size + 1, 3, none⟩ = some (.int .i64 dl) ∧ Y.cell? ⟨w.heap.size + 1, 4, none⟩ = some (.int .i64 bud) ∧ Y.cell? ⟨w.heap.size + 1, 5, none⟩ = some (.int .i64 line) ∧ Y.cell? ⟨w.heap.size + 1, 6, none⟩ = some (.slice ua un uc) ∧ Y.cell? ⟨w.heap.size + 1, 7, none⟩ = some (.slice qa qn qc) from fun Y b => by
    have e1 := (b.block _ (lt_of_heap eA)).trans eA
    have e2 := (b.block _ (lt_of_heap eB)).trans eB
    refine ⟨?_, ?_, ?_, ?_, ?_, ?_, ?_, ?_, ?_, ?_, ?_, ?_, ?_, ?_, ?_, ?_⟩ <;> first | (rw [cell_of_row _ _ _ _ _ _ e1]; rfl) | (rw [cell_of_row _ _ _ _ _ _ e2]; rfl))
  have HW := hide hw2
  clear hw2 eA eB
  obtain ⟨c1, h1⟩ : ∃ b, b = decide (cls = 2) := ⟨_, rfl⟩
  obtain ⟨c2, h2⟩ : ∃ b, b = urgP rcls rlev cls lev := ⟨_, rfl⟩
  have I1 := hide (show ∀ W, Calls Tryz.prog 48 #[.agg #[.int .i64 cls, .int .i64 lev, .int .i64 per, .int .i64 dl, .int .i64 bud, .int .i64 line, .slice ua un uc, .slice qa qn qc]] W fun e w' => e = .returned (.bool c1) ∧ Below W.heap.size W w' from fun W => by rw [h1]; exact afixed_any W cls lev per dl bud line ua un uc qa qn qc)
  have I2 := hide (show ∀ W, Calls Tryz.prog 33 #[.agg #[.int .i64 rcls, .int .i64 rlev, .int .i64 rper, .int .i64 rdl, .int .i64 rbud, .int .i64 rline, .slice rua run ruc, .slice rqa rqn rqc], .agg #[.int .i64 cls, .int .i64 lev, .int .i64 per, .int .i64 dl, .int .i64 bud, .int .i64 line, .slice ua un uc, .slice qa qn qc]] W fun e w' => e = .returned (.bool c2) ∧ Below W.heap.size W w' from fun W => by rw [h2]; exact acounts_any W rcls rlev rper rdl rbud rline rua run ruc rqa rqn rqc cls lev per dl bud line ua un uc qa qn qc)
  rw [← h1, ← h2]
  clear h1 h2
  obtain ⟨k0, k1, k2, k3, k4, k5, k6, k7, z0, z1, z2, z3, z4, z5, z6, z7⟩ := SC.out _ (Below.refl _ _)
  cases c1 with
  | false =>
    go_enter Tryz.func46, Tryz.ntmps46
    go_upto_region 1 with fail
    rw [← HW.out]
    go_wp2_with (first
      | (go_at_call 48; refine (I1.out _).mono ?_; rintro e w3 ⟨rfl, b3⟩; have D3 := hide b3; clear b3; clear k0 k1 k2 k3 k4 k5 k6 k7 z0 z1 z2 z3 z4 z5 z6 z7; obtain ⟨k0, k1, k2, k3, k4, k5, k6, k7, z0, z1, z2, z3, z4, z5, z6, z7⟩ := SC.out _ D3.out)
      | (go_at_call 33; refine (I2.out _).mono ?_; rintro e w4 ⟨rfl, b4⟩; have D4 := hide (D3.out.trans (b4.mono D3.out.size)); clear b4)
      | fail)
    go_ret
    exact ⟨rfl, by first | exact B0.out.trans (D4.out.mono B0.out.size) | exact B0.out.trans (D3.out.mono B0.out.size)⟩
  | true =>
    go_enter Tryz.func46, Tryz.ntmps46
    go_upto_region 1 with fail
    rw [← HW.out]
    go_wp2_with (first
      | (go_at_call 48; refine (I1.out _).mono ?_; rintro e w3 ⟨rfl, b3⟩; have D3 := hide b3; clear b3; clear k0 k1 k2 k3 k4 k5 k6 k7 z0 z1 z2 z3 z4 z5 z6 z7; obtain ⟨k0, k1, k2, k3, k4, k5, k6, k7, z0, z1, z2, z3, z4, z5, z6, z7⟩ := SC.out _ D3.out)
      | (go_at_call 33; refine (I2.out _).mono ?_; rintro e w4 ⟨rfl, b4⟩; have D4 := hide (D3.out.trans (b4.mono D3.out.size)); clear b4)
      | fail)
    go_ret
    exact ⟨rfl, by first | exact B0.out.trans (D4.out.mono B0.out.size) | exact B0.out.trans (D3.out.mono B0.out.size)⟩
theorem reads_one {α : Type} {z : Nat} {vals : α → List Value} (hv : ∀ x, (vals x).length = z) {W : World} {g : Nat} {t : TypeId} {x : α} {cs : Array Value} (h : W.heap[g]? = some (.cells cs t (0, 0))) (hc : cs.toList = vals x) : Reads z vals W (some ⟨g, 0, none⟩) 1 [x] := by
  refine ⟨rfl, fun _ => ⟨g, 0, rfl, fun i y hy j u hu => ?_⟩⟩
  have hi : i = 0 := by
    cases i with
    | zero => rfl
    | succ i => simp at hy
  subst hi
  simp at hy
  subst hy
  rw [cell_of_row _ _ _ _ _ _ h]
  rw [← hc] at hu
  simpa using hu
def usV (x : Tk) : List Value := [.slice x.ua x.un x.uc]
theorem usV_len (x : Tk) : (usV x).length = 1 := rfl
theorem usV_cell (x : Tk) : ∀ v ∈ usV x, v.oneCell' = true := by
  intro v hv
  simp [usV] at hv
  subst hv; rfl
theorem atold_uses_info : (Tryz.prog.info? 25).map (fun i => (i.zero, i.size, i.bytes)) = some (some (.slice none 0 0), 1, 24) := by kernel_rfl
set_option maxRecDepth 20000 in
set_option maxHeartbeats 8000000 in
theorem atold_uses (w : World) (rcls rlev rper rdl rbud rline : Int) (rua : Option Addr) (run ruc : Nat) (rqa : Option Addr) (rqn rqc : Nat) (a : Option Addr) (n c : Nat) (xs : List Tk) (hr : Reads 8 tkVals w a n xs) (hn : n ≤ 100) :
    Calls Tryz.prog 32 #[.slice a n c, .func (.func 33) #[.agg #[.int .i64 rcls, .int .i64 rlev, .int .i64 rper, .int .i64 rdl, .int .i64 rbud, .int .i64 rline, .slice rua run ruc, .slice rqa rqn rqc]] #[], .func (.func 34) #[] #[]] w fun e w' => ∃ v, e = .returned v ∧ w'.ownsRow w.heap.size 25 1 v (xs.filter (fun x => urgP rcls rlev x.cls x.lev)).length ((xs.filter (fun x => urgP rcls rlev x.cls x.lev)).flatMap usV) ∧ Below w.heap.size w w' := by
  obtain ⟨i0, hi0, hz0, hz1, hz2⟩ := info_parts atold_uses_info
  have I0 := hide (show Tryz.prog.info? 25 = some i0 ∧ i0.zero = some _ ∧ i0.size = 1 ∧ i0.bytes = 24 from ⟨hi0, hz0, hz1, hz2⟩)
  have HR := hide (fun (W : World) (b : Below w.heap.size w W) => hr.below b)
  have HL := hide hr.1
  have n2 : (n : Int) ≤ 1000 := by omega
  have N100 := hide hn
  have CF := hide (show ∀ (W : World) (x : Tk), Calls Tryz.prog 33 #[.agg #[.int .i64 rcls, .int .i64 rlev, .int .i64 rper, .int .i64 rdl, .int .i64 rbud, .int .i64 rline, .slice rua run ruc, .slice rqa rqn rqc], .agg #[.int .i64 x.cls, .int .i64 x.lev, .int .i64 x.per, .int .i64 x.dl, .int .i64 x.bud, .int .i64 x.line, .slice x.ua x.un x.uc, .slice x.qa x.qn x.qc]] W fun e w' => e = .returned (.bool (urgP rcls rlev x.cls x.lev)) ∧ Below W.heap.size W w' from fun W x => acounts_any W rcls rlev rper rdl rbud rline rua run ruc rqa rqn rqc x.cls x.lev x.per x.dl x.bud x.line x.ua x.un x.uc x.qa x.qn x.qc)
  have CG := hide (show ∀ (W : World) (x : Tk), Calls Tryz.prog 34 #[.agg #[.int .i64 x.cls, .int .i64 x.lev, .int .i64 x.per, .int .i64 x.dl, .int .i64 x.bud, .int .i64 x.line, .slice x.ua x.un x.uc, .slice x.qa x.qn x.qc]] W fun e w' => e = .returned (.slice x.ua x.un x.uc) ∧ Below W.heap.size W w' from fun W x => auses_any W x.cls x.lev x.per x.dl x.bud x.line x.ua x.un x.uc x.qa x.qn x.qc)
  have LN := hide (show ∀ k, ((xs.take k).filter (fun x => urgP rcls rlev x.cls x.lev)).length ≤ k from fun k => Nat.le_trans (by first | exact List.length_filter_le _ _ | (rw [List.length_map]; exact List.length_filter_le _ _)) (by rw [List.length_take]; omega))
  clear hr hn hi0 hz0 hz1 hz2
  go_enter Tryz.func32, Tryz.ntmps32
  go_wp2_with fail
  go_loopw [7, 12] (fun sv iv wr => ∃ i : Nat, i ≤ n ∧ iv = .int .i64 (i : Int) ∧ Hid (Below w.heap.size w wr) ∧ Hid (wr.ownsRow w.heap.size 25 1 sv ((xs.take i).filter (fun x => urgP rcls rlev x.cls x.lev)).length (((xs.take i).filter (fun x => urgP rcls rlev x.cls x.lev)).flatMap usV))) (fun _ iv _ => n - (intOf iv).toNat)
  case atStart => exact ⟨0, Nat.zero_le _, rfl, Below.refl _ _, World.ownsRow_nil _ _ _ _⟩
  case round =>
    obtain ⟨i, hi, rfl, hB, hO⟩ := hrel
    rename World => w1
    have B1 := hide hB.out
    have O1 := hide hO.out
    clear hB hO
    by_cases hlt : i < n
    · have j0 : (0 : Int) ≤ (i : Int) := by omega
      have j1 : (i : Int) < (n : Int) := by omega
      obtain ⟨x, pb, po, hx, rfl, hc⟩ := (HR.out _ B1.out).at_ hlt
      have y0 : w1.cell? ⟨pb, po + i * 8, none⟩ = some (.int .i64 x.cls) := hc 0 _ rfl
      have y1 : w1.cell? ⟨pb, po + i * 8 + 1, none⟩ = some (.int .i64 x.lev) := hc 1 _ rfl
      have y2 : w1.cell? ⟨pb, po + i * 8 + 2, none⟩ = some (.int .i64 x.per) := hc 2 _ rfl
      have y3 : w1.cell? ⟨pb, po + i * 8 + 3, none⟩ = some (.int .i64 x.dl) := hc 3 _ rfl
      have y4 : w1.cell? ⟨pb, po + i * 8 + 4, none⟩ = some (.int .i64 x.bud) := hc 4 _ rfl
      have y5 : w1.cell? ⟨pb, po + i * 8 + 5, none⟩ = some (.int .i64 x.line) := hc 5 _ rfl
      have y6 : w1.cell? ⟨pb, po + i * 8 + 6, none⟩ = some (.slice x.ua x.un x.uc) := hc 6 _ rfl
      have y7 : w1.cell? ⟨pb, po + i * 8 + 7, none⟩ = some (.slice x.qa x.qn x.qc) := hc 7 _ rfl
      obtain ⟨r, hr⟩ : ∃ r, r = (urgP rcls rlev x.cls x.lev) := ⟨_, rfl⟩
      have NX := hide (show (xs.take (i + 1)).filter (fun x => urgP rcls rlev x.cls x.lev) = (xs.take i).filter (fun x => urgP rcls rlev x.cls x.lev) ++ (if r = true then [x] else []) from by
        rw [hr]
        simp only [List.take_add_one, hx, Option.toList, List.filter_append, List.map_append]
        cases e : (urgP rcls rlev x.cls x.lev) <;> simp only [List.filter_cons, List.filter_nil, e, Bool.false_eq_true, ↓reduceIte, List.map_cons, List.map_nil])
      obtain ⟨M, hM⟩ : ∃ M, M = (xs.take i).filter (fun x => urgP rcls rlev x.cls x.lev) := ⟨_, rfl⟩
      have LM := hide (show M.length ≤ 100 from by rw [hM]; exact Nat.le_trans (LN.out i) (Nat.le_trans hi N100.out))
      rw [← hM] at NX O1
      have CX := hide (fun W => CF.out W x)
      have CY := hide (fun W => CG.out W x)
      rw [← hr] at CX
      obtain ⟨w2, hw2⟩ : ∃ w2, w2 = w1.alloc (.cells #[.int .i64 x.cls, .int .i64 x.lev, .int .i64 x.per, .int .i64 x.dl, .int .i64 x.bud, .int .i64 x.line, .slice x.ua x.un x.uc, .slice x.qa x.qn x.qc] 47) := ⟨_, rfl⟩
      have b2 : Below w.heap.size w w2 := by rw [hw2]; exact B1.out.alloc B1.out.size _
      have e2 : w2.heap[w1.heap.size]? = some (.cells #[.int .i64 x.cls, .int .i64 x.lev, .int .i64 x.per, .int .i64 x.dl, .int .i64 x.bud, .int .i64 x.line, .slice x.ua x.un x.uc, .slice x.qa x.qn x.qc] 47 (0, 0)) := by rw [hw2]; exact heap_alloc_new _ _
      have o2 := O1.out.alloc (.cells #[.int .i64 x.cls, .int .i64 x.lev, .int .i64 x.per, .int .i64 x.dl, .int .i64 x.bud, .int .i64 x.line, .slice x.ua x.un x.uc, .slice x.qa x.qn x.qc] 47)
      rw [← hw2] at o2
      have KZ := hide (show ∀ Y : World, Below w2.heap.size w2 Y → Y.cell? ⟨w1.heap.size, 0, none⟩ = some (.int .i64 x.cls) ∧ Y.cell? ⟨w1.heap.size, 1, none⟩ = some (.int .i64 x.lev) ∧ Y.cell? ⟨w1.heap.size, 2, none⟩ = some (.int .i64 x.per) ∧ Y.cell? ⟨w1.heap.size, 3, none⟩ = some (.int .i64 x.dl) ∧ Y.cell? ⟨w1.heap.size, 4, none⟩ = some (.int .i64 x.bud) ∧ Y.cell? ⟨w1.heap.size, 5, none⟩ = some (.int .i64 x.line) ∧ Y.cell? ⟨w1.heap.size, 6, none⟩ = some (.slice x.ua x.un x.uc) ∧ Y.cell? ⟨w1.heap.size, 7, none⟩ = some (.slice x.qa x.qn x.qc) from fun Y b => by
        have e := (b.block _ (lt_of_heap e2)).trans e2
        refine ⟨?_, ?_, ?_, ?_, ?_, ?_, ?_, ?_⟩ <;> (rw [cell_of_row _ _ _ _ _ _ e]; rfl))
      obtain ⟨z0, z1, z2, z3, z4, z5, z6, z7⟩ := KZ.out _ (Below.refl _ _)
      have O2 := hide o2
      have B2 := hide b2
      have HW2 := hide hw2
      clear hx hc hr hw2 b2 e2 o2 hM
      cases r with
      | false =>
        have NXF := hide (show (xs.take (i + 1)).filter (fun x => urgP rcls rlev x.cls x.lev) = M from by rw [NX.out]; simp)
        go_upto_region 5 with fail
        rw [← HW2.out]
        go_wp2_with (go_at_call 33; refine (CX.out _).mono ?_; rintro e w3 ⟨rfl, b3⟩; have C3 := hide b3; have B3 := hide (B2.out.trans (b3.mono B2.out.size)); have O3 := hide ((Touch.of_below (S := fun _ => False) b3).own O2.out (fun _ _ e => e)); clear b3; clear z0 z1 z2 z3 z4 z5 z6 z7; obtain ⟨z0, z1, z2, z3, z4, z5, z6, z7⟩ := KZ.out _ C3.out)
        go_roundw
        case rel => exact ⟨i + 1, by omega, by go_num, B3.out, by rw [NXF.out]; exact O3.out⟩
        case measure => simp [intOf]; omega
      | true =>
        have NXT := hide (show (xs.take (i + 1)).filter (fun x => urgP rcls rlev x.cls x.lev) = M ++ [x] from by rw [NX.out]; simp)
        go_upto_region 5 with fail
        rw [← HW2.out]
        go_wp2_with (first
          | (go_at_call 33; refine (CX.out _).mono ?_; rintro e w3 ⟨rfl, b3⟩; have C3 := hide b3; have B3 := hide (B2.out.trans (b3.mono B2.out.size)); have O3 := hide ((Touch.of_below (S := fun _ => False) b3).own O2.out (fun _ _ e => e)); clear b3; clear z0 z1 z2 z3 z4 z5 z6 z7; obtain ⟨z0, z1, z2, z3, z4, z5, z6, z7⟩ := KZ.out _ C3.out)
          | (go_at_call 34; refine (CY.out _).mono ?_; rintro e w4 ⟨rfl, b4⟩; have B4 := hide ((B3.out.trans (b4.mono B3.out.size)).alloc (Nat.le_trans B3.out.size b4.size) (.cells #[.slice x.ua x.un x.uc] 25)); have O4 := hide (((Touch.of_below (S := fun _ => False) b4).own O3.out (fun _ _ e => e)).alloc (.cells #[.slice x.ua x.un x.uc] 25)); have R4 := hide (show Reads 1 usV (w4.alloc (.cells #[.slice x.ua x.un x.uc] 25)) (some ⟨w4.heap.size, 0, none⟩) 1 [x] from reads_one usV_len (heap_alloc_new w4 _) rfl); clear b4)
          | (at_builtin; refine wpList_append_reads rfl (.tmp 19) (.tmp 23) _ rfl w.heap.size 25 i0 _ 24 (Tryz.underlying68) I0.out.1 I0.out.2.1 I0.out.2.2.1 I0.out.2.2.2 rfl (by omega) _ M.length _ rfl O4.out _ 1 _ [x] rfl usV_len usV_cell R4.out (fun h => by cases h) (by have := LM.out; unfold maxLen; omega) (by have := LM.out; omega) B4.out.size ?_; intro v5 w5 o5 g5; have O5 := hide o5; have B5 := hide (show Below w.heap.size w w5 from B4.out.grown g5 B4.out.size (fun j hj => (O4.out.lt j hj).1)); clear o5 g5))
        go_roundw
        case rel => exact ⟨i + 1, by omega, by go_num, B5.out, by rw [NXT.out, List.length_append, List.flatMap_append]; exact O5.out⟩
        case measure => simp [intOf]; omega
    · obtain rfl : i = n := by omega
      have O := hide (show w1.ownsRow w.heap.size 25 1 _ (xs.filter (fun x => urgP rcls rlev x.cls x.lev)).length ((xs.filter (fun x => urgP rcls rlev x.cls x.lev)).flatMap usV) from by have h := O1.out; rw [List.take_of_length_le (by have := HL.out; omega)] at h; exact h)
      clear hlt hi O1 LN
      go_wp2_with fail
      go_ret
      exact ⟨_, rfl, O.out, B1.out⟩
theorem atold_parts_info : (Tryz.prog.info? 36).map (fun i => (i.zero, i.size, i.bytes)) = some (some (.agg #[.int .i64 0, .int .i64 0]), 2, 16) := by kernel_rfl
set_option maxRecDepth 20000 in
set_option maxHeartbeats 8000000 in
theorem atold_parts (w : World) (rcls rlev rper rdl rbud rline : Int) (rua : Option Addr) (run ruc : Nat) (rqa : Option Addr) (rqn rqc : Nat) (a : Option Addr) (n c : Nat) (xs : List Tk) (hr : Reads 8 tkVals w a n xs) (hn : n ≤ 100) :
    Calls Tryz.prog 45 #[.slice a n c, .func (.func 46) #[.agg #[.int .i64 rcls, .int .i64 rlev, .int .i64 rper, .int .i64 rdl, .int .i64 rbud, .int .i64 rline, .slice rua run ruc, .slice rqa rqn rqc]] #[], .func (.func 47) #[] #[]] w fun e w' => ∃ v, e = .returned v ∧ w'.ownsRow w.heap.size 36 2 v ((xs.filter (fun x => decide (x.cls = 2) && urgP rcls rlev x.cls x.lev)).map (fun x => partT (tpOf x))).length (((xs.filter (fun x => decide (x.cls = 2) && urgP rcls rlev x.cls x.lev)).map (fun x => partT (tpOf x))).flatMap ptVals) ∧ Below w.heap.size w w' := by
  obtain ⟨i0, hi0, hz0, hz1, hz2⟩ := info_parts atold_parts_info
  have I0 := hide (show Tryz.prog.info? 36 = some i0 ∧ i0.zero = some _ ∧ i0.size = 2 ∧ i0.bytes = 16 from ⟨hi0, hz0, hz1, hz2⟩)
  have HR := hide (fun (W : World) (b : Below w.heap.size w W) => hr.below b)
  have HL := hide hr.1
  have n2 : (n : Int) ≤ 1000 := by omega
  have N100 := hide hn
  have CF := hide (show ∀ (W : World) (x : Tk), Calls Tryz.prog 46 #[.agg #[.int .i64 rcls, .int .i64 rlev, .int .i64 rper, .int .i64 rdl, .int .i64 rbud, .int .i64 rline, .slice rua run ruc, .slice rqa rqn rqc], .agg #[.int .i64 x.cls, .int .i64 x.lev, .int .i64 x.per, .int .i64 x.dl, .int .i64 x.bud, .int .i64 x.line, .slice x.ua x.un x.uc, .slice x.qa x.qn x.qc]] W fun e w' => e = .returned (.bool (decide (x.cls = 2) && urgP rcls rlev x.cls x.lev)) ∧ Below W.heap.size W w' from fun W x => aahead_any W rcls rlev rper rdl rbud rline rua run ruc rqa rqn rqc x.cls x.lev x.per x.dl x.bud x.line x.ua x.un x.uc x.qa x.qn x.qc)
  have CG := hide (show ∀ (W : World) (x : Tk), Calls Tryz.prog 47 #[.agg #[.int .i64 x.cls, .int .i64 x.lev, .int .i64 x.per, .int .i64 x.dl, .int .i64 x.bud, .int .i64 x.line, .slice x.ua x.un x.uc, .slice x.qa x.qn x.qc]] W fun e w' => e = .returned (.agg #[.int .i64 x.per, .int .i64 x.bud]) ∧ Below W.heap.size W w' from fun W x => apart1_any W x.cls x.lev x.per x.dl x.bud x.line x.ua x.un x.uc x.qa x.qn x.qc)
  have LN := hide (show ∀ k, (((xs.take k).filter (fun x => decide (x.cls = 2) && urgP rcls rlev x.cls x.lev)).map (fun x => partT (tpOf x))).length ≤ k from fun k => Nat.le_trans (by first | exact List.length_filter_le _ _ | (rw [List.length_map]; exact List.length_filter_le _ _)) (by rw [List.length_take]; omega))
  clear hr hn hi0 hz0 hz1 hz2
  go_enter Tryz.func45, Tryz.ntmps45
  go_wp2_with fail
  go_loopw [7, 12] (fun sv iv wr => ∃ i : Nat, i ≤ n ∧ iv = .int .i64 (i : Int) ∧ Hid (Below w.heap.size w wr) ∧ Hid (wr.ownsRow w.heap.size 36 2 sv (((xs.take i).filter (fun x => decide (x.cls = 2) && urgP rcls rlev x.cls x.lev)).map (fun x => partT (tpOf x))).length ((((xs.take i).filter (fun x => decide (x.cls = 2) && urgP rcls rlev x.cls x.lev)).map (fun x => partT (tpOf x))).flatMap ptVals))) (fun _ iv _ => n - (intOf iv).toNat)
  case atStart => exact ⟨0, Nat.zero_le _, rfl, Below.refl _ _, World.ownsRow_nil _ _ _ _⟩
  case round =>
    obtain ⟨i, hi, rfl, hB, hO⟩ := hrel
    rename World => w1
    have B1 := hide hB.out
    have O1 := hide hO.out
    clear hB hO
    by_cases hlt : i < n
    · have j0 : (0 : Int) ≤ (i : Int) := by omega
      have j1 : (i : Int) < (n : Int) := by omega
      obtain ⟨x, pb, po, hx, rfl, hc⟩ := (HR.out _ B1.out).at_ hlt
      have y0 : w1.cell? ⟨pb, po + i * 8, none⟩ = some (.int .i64 x.cls) := hc 0 _ rfl
      have y1 : w1.cell? ⟨pb, po + i * 8 + 1, none⟩ = some (.int .i64 x.lev) := hc 1 _ rfl
      have y2 : w1.cell? ⟨pb, po + i * 8 + 2, none⟩ = some (.int .i64 x.per) := hc 2 _ rfl
      have y3 : w1.cell? ⟨pb, po + i * 8 + 3, none⟩ = some (.int .i64 x.dl) := hc 3 _ rfl
      have y4 : w1.cell? ⟨pb, po + i * 8 + 4, none⟩ = some (.int .i64 x.bud) := hc 4 _ rfl
      have y5 : w1.cell? ⟨pb, po + i * 8 + 5, none⟩ = some (.int .i64 x.line) := hc 5 _ rfl
      have y6 : w1.cell? ⟨pb, po + i * 8 + 6, none⟩ = some (.slice x.ua x.un x.uc) := hc 6 _ rfl
      have y7 : w1.cell? ⟨pb, po + i * 8 + 7, none⟩ = some (.slice x.qa x.qn x.qc) := hc 7 _ rfl
      obtain ⟨r, hr⟩ : ∃ r, r = (decide (x.cls = 2) && urgP rcls rlev x.cls x.lev) := ⟨_, rfl⟩
      have NX := hide (show ((xs.take (i + 1)).filter (fun x => decide (x.cls = 2) && urgP rcls rlev x.cls x.lev)).map (fun x => partT (tpOf x)) = ((xs.take i).filter (fun x => decide (x.cls = 2) && urgP rcls rlev x.cls x.lev)).map (fun x => partT (tpOf x)) ++ (if r = true then [partT (tpOf x)] else []) from by
        rw [hr]
        simp only [List.take_add_one, hx, Option.toList, List.filter_append, List.map_append]
        cases e : (decide (x.cls = 2) && urgP rcls rlev x.cls x.lev) <;> simp only [List.filter_cons, List.filter_nil, e, Bool.false_eq_true, ↓reduceIte, List.map_cons, List.map_nil])
      obtain ⟨M, hM⟩ : ∃ M, M = ((xs.take i).filter (fun x => decide (x.cls = 2) && urgP rcls rlev x.cls x.lev)).map (fun x => partT (tpOf x)) := ⟨_, rfl⟩
      have LM := hide (show M.length ≤ 100 from by rw [hM]; exact Nat.le_trans (LN.out i) (Nat.le_trans hi N100.out))
      rw [← hM] at NX O1
      have CX := hide (fun W => CF.out W x)
      have CY := hide (fun W => CG.out W x)
      rw [← hr] at CX
      obtain ⟨w2, hw2⟩ : ∃ w2, w2 = w1.alloc (.cells #[.int .i64 x.cls, .int .i64 x.lev, .int .i64 x.per, .int .i64 x.dl, .int .i64 x.bud, .int .i64 x.line, .slice x.ua x.un x.uc, .slice x.qa x.qn x.qc] 47) := ⟨_, rfl⟩
      have b2 : Below w.heap.size w w2 := by rw [hw2]; exact B1.out.alloc B1.out.size _
      have e2 : w2.heap[w1.heap.size]? = some (.cells #[.int .i64 x.cls, .int .i64 x.lev, .int .i64 x.per, .int .i64 x.dl, .int .i64 x.bud, .int .i64 x.line, .slice x.ua x.un x.uc, .slice x.qa x.qn x.qc] 47 (0, 0)) := by rw [hw2]; exact heap_alloc_new _ _
      have o2 := O1.out.alloc (.cells #[.int .i64 x.cls, .int .i64 x.lev, .int .i64 x.per, .int .i64 x.dl, .int .i64 x.bud, .int .i64 x.line, .slice x.ua x.un x.uc, .slice x.qa x.qn x.qc] 47)
      rw [← hw2] at o2
      have KZ := hide (show ∀ Y : World, Below w2.heap.size w2 Y → Y.cell? ⟨w1.heap.size, 0, none⟩ = some (.int .i64 x.cls) ∧ Y.cell? ⟨w1.heap.size, 1, none⟩ = some (.int .i64 x.lev) ∧ Y.cell? ⟨w1.heap.size, 2, none⟩ = some (.int .i64 x.per) ∧ Y.cell? ⟨w1.heap.size, 3, none⟩ = some (.int .i64 x.dl) ∧ Y.cell? ⟨w1.heap.size, 4, none⟩ = some (.int .i64 x.bud) ∧ Y.cell? ⟨w1.heap.size, 5, none⟩ = some (.int .i64 x.line) ∧ Y.cell? ⟨w1.heap.size, 6, none⟩ = some (.slice x.ua x.un x.uc) ∧ Y.cell? ⟨w1.heap.size, 7, none⟩ = some (.slice x.qa x.qn x.qc) from fun Y b => by
        have e := (b.block _ (lt_of_heap e2)).trans e2
        refine ⟨?_, ?_, ?_, ?_, ?_, ?_, ?_, ?_⟩ <;> (rw [cell_of_row _ _ _ _ _ _ e]; rfl))
      obtain ⟨z0, z1, z2, z3, z4, z5, z6, z7⟩ := KZ.out _ (Below.refl _ _)
      have O2 := hide o2
      have B2 := hide b2
      have HW2 := hide hw2
      clear hx hc hr hw2 b2 e2 o2 hM
      cases r with
      | false =>
        have NXF := hide (show ((xs.take (i + 1)).filter (fun x => decide (x.cls = 2) && urgP rcls rlev x.cls x.lev)).map (fun x => partT (tpOf x)) = M from by rw [NX.out]; simp)
        go_upto_region 5 with fail
        rw [← HW2.out]
        go_wp2_with (go_at_call 46; refine (CX.out _).mono ?_; rintro e w3 ⟨rfl, b3⟩; have C3 := hide b3; have B3 := hide (B2.out.trans (b3.mono B2.out.size)); have O3 := hide ((Touch.of_below (S := fun _ => False) b3).own O2.out (fun _ _ e => e)); clear b3; clear z0 z1 z2 z3 z4 z5 z6 z7; obtain ⟨z0, z1, z2, z3, z4, z5, z6, z7⟩ := KZ.out _ C3.out)
        go_roundw
        case rel => exact ⟨i + 1, by omega, by go_num, B3.out, by rw [NXF.out]; exact O3.out⟩
        case measure => simp [intOf]; omega
      | true =>
        have NXT := hide (show ((xs.take (i + 1)).filter (fun x => decide (x.cls = 2) && urgP rcls rlev x.cls x.lev)).map (fun x => partT (tpOf x)) = M ++ [partT (tpOf x)] from by rw [NX.out]; simp)
        go_upto_region 5 with fail
        rw [← HW2.out]
        go_wp2_with (first
          | (go_at_call 46; refine (CX.out _).mono ?_; rintro e w3 ⟨rfl, b3⟩; have C3 := hide b3; have B3 := hide (B2.out.trans (b3.mono B2.out.size)); have O3 := hide ((Touch.of_below (S := fun _ => False) b3).own O2.out (fun _ _ e => e)); clear b3; clear z0 z1 z2 z3 z4 z5 z6 z7; obtain ⟨z0, z1, z2, z3, z4, z5, z6, z7⟩ := KZ.out _ C3.out)
          | (go_at_call 47; refine (CY.out _).mono ?_; rintro e w4 ⟨rfl, b4⟩; have B4 := hide ((B3.out.trans (b4.mono B3.out.size)).alloc (Nat.le_trans B3.out.size b4.size) (.cells #[.int .i64 x.per, .int .i64 x.bud] 36)); have O4 := hide (((Touch.of_below (S := fun _ => False) b4).own O3.out (fun _ _ e => e)).alloc (.cells #[.int .i64 x.per, .int .i64 x.bud] 36)); have R4 := hide (show Reads 2 ptVals (w4.alloc (.cells #[.int .i64 x.per, .int .i64 x.bud] 36)) (some ⟨w4.heap.size, 0, none⟩) 1 [partT (tpOf x)] from reads_one ptVals_len (heap_alloc_new w4 _) rfl); clear b4)
          | (at_builtin; refine wpList_append_reads rfl (.tmp 19) (.tmp 23) _ rfl w.heap.size 36 i0 _ 16 (Tryz.underlying31) I0.out.1 I0.out.2.1 I0.out.2.2.1 I0.out.2.2.2 rfl (by omega) _ M.length _ rfl O4.out _ 1 _ [partT (tpOf x)] rfl ptVals_len ptVals_cell R4.out (fun h => by cases h) (by have := LM.out; unfold maxLen; omega) (by have := LM.out; omega) B4.out.size ?_; intro v5 w5 o5 g5; have O5 := hide o5; have B5 := hide (show Below w.heap.size w w5 from B4.out.grown g5 B4.out.size (fun j hj => (O4.out.lt j hj).1)); clear o5 g5))
        go_roundw
        case rel => exact ⟨i + 1, by omega, by go_num, B5.out, by rw [NXT.out, List.length_append, List.flatMap_append]; exact O5.out⟩
        case measure => simp [intOf]; omega
    · obtain rfl : i = n := by omega
      have O := hide (show w1.ownsRow w.heap.size 36 2 _ ((xs.filter (fun x => decide (x.cls = 2) && urgP rcls rlev x.cls x.lev)).map (fun x => partT (tpOf x))).length (((xs.filter (fun x => decide (x.cls = 2) && urgP rcls rlev x.cls x.lev)).map (fun x => partT (tpOf x))).flatMap ptVals) from by have h := O1.out; rw [List.take_of_length_le (by have := HL.out; omega)] at h; exact h)
      clear hlt hi O1 LN
      go_wp2_with fail
      go_ret
      exact ⟨_, rfl, O.out, B1.out⟩
theorem atold_jobs_info : (Tryz.prog.info? 88).map (fun i => (i.zero, i.size, i.bytes)) = some (some (.agg #[.int .i64 0, .int .i64 0, .int .i64 0]), 3, 24) := by kernel_rfl
set_option maxRecDepth 20000 in
set_option maxHeartbeats 8000000 in
theorem atold_jobs (w : World) (a : Option Addr) (n c : Nat) (xs : List Tk) (hr : Reads 8 tkVals w a n xs) (hn : n ≤ 100) :
    Calls Tryz.prog 51 #[.slice a n c, .func (.func 52) #[] #[], .func (.func 53) #[] #[]] w fun e w' => ∃ v, e = .returned v ∧ w'.ownsRow w.heap.size 88 3 v ((xs.filter (fun x => decide (x.cls = 1))).map (fun x => earT (tpOf x))).length (((xs.filter (fun x => decide (x.cls = 1))).map (fun x => earT (tpOf x))).flatMap erVals) ∧ Below w.heap.size w w' := by
  obtain ⟨i0, hi0, hz0, hz1, hz2⟩ := info_parts atold_jobs_info
  have I0 := hide (show Tryz.prog.info? 88 = some i0 ∧ i0.zero = some _ ∧ i0.size = 3 ∧ i0.bytes = 24 from ⟨hi0, hz0, hz1, hz2⟩)
  have HR := hide (fun (W : World) (b : Below w.heap.size w W) => hr.below b)
  have HL := hide hr.1
  have n2 : (n : Int) ≤ 1000 := by omega
  have N100 := hide hn
  have CF := hide (show ∀ (W : World) (x : Tk), Calls Tryz.prog 52 #[.agg #[.int .i64 x.cls, .int .i64 x.lev, .int .i64 x.per, .int .i64 x.dl, .int .i64 x.bud, .int .i64 x.line, .slice x.ua x.un x.uc, .slice x.qa x.qn x.qc]] W fun e w' => e = .returned (.bool (decide (x.cls = 1))) ∧ Below W.heap.size W w' from fun W x => aearly_any W x.cls x.lev x.per x.dl x.bud x.line x.ua x.un x.uc x.qa x.qn x.qc)
  have CG := hide (show ∀ (W : World) (x : Tk), Calls Tryz.prog 53 #[.agg #[.int .i64 x.cls, .int .i64 x.lev, .int .i64 x.per, .int .i64 x.dl, .int .i64 x.bud, .int .i64 x.line, .slice x.ua x.un x.uc, .slice x.qa x.qn x.qc]] W fun e w' => e = .returned (.agg #[.int .i64 x.per, .int .i64 x.dl, .int .i64 x.bud]) ∧ Below W.heap.size W w' from fun W x => ajob_any W x.cls x.lev x.per x.dl x.bud x.line x.ua x.un x.uc x.qa x.qn x.qc)
  have LN := hide (show ∀ k, (((xs.take k).filter (fun x => decide (x.cls = 1))).map (fun x => earT (tpOf x))).length ≤ k from fun k => Nat.le_trans (by first | exact List.length_filter_le _ _ | (rw [List.length_map]; exact List.length_filter_le _ _)) (by rw [List.length_take]; omega))
  clear hr hn hi0 hz0 hz1 hz2
  go_enter Tryz.func51, Tryz.ntmps51
  go_wp2_with fail
  go_loopw [7, 12] (fun sv iv wr => ∃ i : Nat, i ≤ n ∧ iv = .int .i64 (i : Int) ∧ Hid (Below w.heap.size w wr) ∧ Hid (wr.ownsRow w.heap.size 88 3 sv (((xs.take i).filter (fun x => decide (x.cls = 1))).map (fun x => earT (tpOf x))).length ((((xs.take i).filter (fun x => decide (x.cls = 1))).map (fun x => earT (tpOf x))).flatMap erVals))) (fun _ iv _ => n - (intOf iv).toNat)
  case atStart => exact ⟨0, Nat.zero_le _, rfl, Below.refl _ _, World.ownsRow_nil _ _ _ _⟩
  case round =>
    obtain ⟨i, hi, rfl, hB, hO⟩ := hrel
    rename World => w1
    have B1 := hide hB.out
    have O1 := hide hO.out
    clear hB hO
    by_cases hlt : i < n
    · have j0 : (0 : Int) ≤ (i : Int) := by omega
      have j1 : (i : Int) < (n : Int) := by omega
      obtain ⟨x, pb, po, hx, rfl, hc⟩ := (HR.out _ B1.out).at_ hlt
      have y0 : w1.cell? ⟨pb, po + i * 8, none⟩ = some (.int .i64 x.cls) := hc 0 _ rfl
      have y1 : w1.cell? ⟨pb, po + i * 8 + 1, none⟩ = some (.int .i64 x.lev) := hc 1 _ rfl
      have y2 : w1.cell? ⟨pb, po + i * 8 + 2, none⟩ = some (.int .i64 x.per) := hc 2 _ rfl
      have y3 : w1.cell? ⟨pb, po + i * 8 + 3, none⟩ = some (.int .i64 x.dl) := hc 3 _ rfl
      have y4 : w1.cell? ⟨pb, po + i * 8 + 4, none⟩ = some (.int .i64 x.bud) := hc 4 _ rfl
      have y5 : w1.cell? ⟨pb, po + i * 8 + 5, none⟩ = some (.int .i64 x.line) := hc 5 _ rfl
      have y6 : w1.cell? ⟨pb, po + i * 8 + 6, none⟩ = some (.slice x.ua x.un x.uc) := hc 6 _ rfl
      have y7 : w1.cell? ⟨pb, po + i * 8 + 7, none⟩ = some (.slice x.qa x.qn x.qc) := hc 7 _ rfl
      obtain ⟨r, hr⟩ : ∃ r, r = (decide (x.cls = 1)) := ⟨_, rfl⟩
      have NX := hide (show ((xs.take (i + 1)).filter (fun x => decide (x.cls = 1))).map (fun x => earT (tpOf x)) = ((xs.take i).filter (fun x => decide (x.cls = 1))).map (fun x => earT (tpOf x)) ++ (if r = true then [earT (tpOf x)] else []) from by
        rw [hr]
        simp only [List.take_add_one, hx, Option.toList, List.filter_append, List.map_append]
        cases e : (decide (x.cls = 1)) <;> simp only [List.filter_cons, List.filter_nil, e, Bool.false_eq_true, ↓reduceIte, List.map_cons, List.map_nil])
      obtain ⟨M, hM⟩ : ∃ M, M = ((xs.take i).filter (fun x => decide (x.cls = 1))).map (fun x => earT (tpOf x)) := ⟨_, rfl⟩
      have LM := hide (show M.length ≤ 100 from by rw [hM]; exact Nat.le_trans (LN.out i) (Nat.le_trans hi N100.out))
      rw [← hM] at NX O1
      have CX := hide (fun W => CF.out W x)
      have CY := hide (fun W => CG.out W x)
      rw [← hr] at CX
      obtain ⟨w2, hw2⟩ : ∃ w2, w2 = w1.alloc (.cells #[.int .i64 x.cls, .int .i64 x.lev, .int .i64 x.per, .int .i64 x.dl, .int .i64 x.bud, .int .i64 x.line, .slice x.ua x.un x.uc, .slice x.qa x.qn x.qc] 47) := ⟨_, rfl⟩
      have b2 : Below w.heap.size w w2 := by rw [hw2]; exact B1.out.alloc B1.out.size _
      have e2 : w2.heap[w1.heap.size]? = some (.cells #[.int .i64 x.cls, .int .i64 x.lev, .int .i64 x.per, .int .i64 x.dl, .int .i64 x.bud, .int .i64 x.line, .slice x.ua x.un x.uc, .slice x.qa x.qn x.qc] 47 (0, 0)) := by rw [hw2]; exact heap_alloc_new _ _
      have o2 := O1.out.alloc (.cells #[.int .i64 x.cls, .int .i64 x.lev, .int .i64 x.per, .int .i64 x.dl, .int .i64 x.bud, .int .i64 x.line, .slice x.ua x.un x.uc, .slice x.qa x.qn x.qc] 47)
      rw [← hw2] at o2
      have KZ := hide (show ∀ Y : World, Below w2.heap.size w2 Y → Y.cell? ⟨w1.heap.size, 0, none⟩ = some (.int .i64 x.cls) ∧ Y.cell? ⟨w1.heap.size, 1, none⟩ = some (.int .i64 x.lev) ∧ Y.cell? ⟨w1.heap.size, 2, none⟩ = some (.int .i64 x.per) ∧ Y.cell? ⟨w1.heap.size, 3, none⟩ = some (.int .i64 x.dl) ∧ Y.cell? ⟨w1.heap.size, 4, none⟩ = some (.int .i64 x.bud) ∧ Y.cell? ⟨w1.heap.size, 5, none⟩ = some (.int .i64 x.line) ∧ Y.cell? ⟨w1.heap.size, 6, none⟩ = some (.slice x.ua x.un x.uc) ∧ Y.cell? ⟨w1.heap.size, 7, none⟩ = some (.slice x.qa x.qn x.qc) from fun Y b => by
        have e := (b.block _ (lt_of_heap e2)).trans e2
        refine ⟨?_, ?_, ?_, ?_, ?_, ?_, ?_, ?_⟩ <;> (rw [cell_of_row _ _ _ _ _ _ e]; rfl))
      obtain ⟨z0, z1, z2, z3, z4, z5, z6, z7⟩ := KZ.out _ (Below.refl _ _)
      have O2 := hide o2
      have B2 := hide b2
      have HW2 := hide hw2
      clear hx hc hr hw2 b2 e2 o2 hM
      cases r with
      | false =>
        have NXF := hide (show ((xs.take (i + 1)).filter (fun x => decide (x.cls = 1))).map (fun x => earT (tpOf x)) = M from by rw [NX.out]; simp)
        go_upto_region 5 with fail
        rw [← HW2.out]
        go_wp2_with (go_at_call 52; refine (CX.out _).mono ?_; rintro e w3 ⟨rfl, b3⟩; have C3 := hide b3; have B3 := hide (B2.out.trans (b3.mono B2.out.size)); have O3 := hide ((Touch.of_below (S := fun _ => False) b3).own O2.out (fun _ _ e => e)); clear b3; clear z0 z1 z2 z3 z4 z5 z6 z7; obtain ⟨z0, z1, z2, z3, z4, z5, z6, z7⟩ := KZ.out _ C3.out)
        go_roundw
        case rel => exact ⟨i + 1, by omega, by go_num, B3.out, by rw [NXF.out]; exact O3.out⟩
        case measure => simp [intOf]; omega
      | true =>
        have NXT := hide (show ((xs.take (i + 1)).filter (fun x => decide (x.cls = 1))).map (fun x => earT (tpOf x)) = M ++ [earT (tpOf x)] from by rw [NX.out]; simp)
        go_upto_region 5 with fail
        rw [← HW2.out]
        go_wp2_with (first
          | (go_at_call 52; refine (CX.out _).mono ?_; rintro e w3 ⟨rfl, b3⟩; have C3 := hide b3; have B3 := hide (B2.out.trans (b3.mono B2.out.size)); have O3 := hide ((Touch.of_below (S := fun _ => False) b3).own O2.out (fun _ _ e => e)); clear b3; clear z0 z1 z2 z3 z4 z5 z6 z7; obtain ⟨z0, z1, z2, z3, z4, z5, z6, z7⟩ := KZ.out _ C3.out)
          | (go_at_call 53; refine (CY.out _).mono ?_; rintro e w4 ⟨rfl, b4⟩; have B4 := hide ((B3.out.trans (b4.mono B3.out.size)).alloc (Nat.le_trans B3.out.size b4.size) (.cells #[.int .i64 x.per, .int .i64 x.dl, .int .i64 x.bud] 88)); have O4 := hide (((Touch.of_below (S := fun _ => False) b4).own O3.out (fun _ _ e => e)).alloc (.cells #[.int .i64 x.per, .int .i64 x.dl, .int .i64 x.bud] 88)); have R4 := hide (show Reads 3 erVals (w4.alloc (.cells #[.int .i64 x.per, .int .i64 x.dl, .int .i64 x.bud] 88)) (some ⟨w4.heap.size, 0, none⟩) 1 [earT (tpOf x)] from reads_one erVals_len (heap_alloc_new w4 _) rfl); clear b4)
          | (at_builtin; refine wpList_append_reads rfl (.tmp 19) (.tmp 23) _ rfl w.heap.size 88 i0 _ 24 (Tryz.underlying85) I0.out.1 I0.out.2.1 I0.out.2.2.1 I0.out.2.2.2 rfl (by omega) _ M.length _ rfl O4.out _ 1 _ [earT (tpOf x)] rfl erVals_len erVals_cell R4.out (fun h => by cases h) (by have := LM.out; unfold maxLen; omega) (by have := LM.out; omega) B4.out.size ?_; intro v5 w5 o5 g5; have O5 := hide o5; have B5 := hide (show Below w.heap.size w w5 from B4.out.grown g5 B4.out.size (fun j hj => (O4.out.lt j hj).1)); clear o5 g5))
        go_roundw
        case rel => exact ⟨i + 1, by omega, by go_num, B5.out, by rw [NXT.out, List.length_append, List.flatMap_append]; exact O5.out⟩
        case measure => simp [intOf]; omega
    · obtain rfl : i = n := by omega
      have O := hide (show w1.ownsRow w.heap.size 88 3 _ ((xs.filter (fun x => decide (x.cls = 1))).map (fun x => earT (tpOf x))).length (((xs.filter (fun x => decide (x.cls = 1))).map (fun x => earT (tpOf x))).flatMap erVals) from by have h := O1.out; rw [List.take_of_length_le (by have := HL.out; omega)] at h; exact h)
      clear hlt hi O1 LN
      go_wp2_with fail
      go_ret
      exact ⟨_, rfl, O.out, B1.out⟩
end Go.Proofs.YtcmgkjjkhfcedaaGreat
/-
  Contracts of the library at this program, laid by the shelf in plain words.
-/
namespace Go.Proofs
open Go.Shelf
def Tryz.growPt_ren : Go.Shelf.Ren := ⟨fun | 4 => 74 | n => n, fun | 22 => 31 | 25 => 36 | 3 => 3 | 4 => 4 | 9 => 9 | 20 => 20 | 0 => 0 | 2 => 3 | n => n, fun | n => n⟩
theorem Tryz.growPt : Go.Proofs.Lays8.n4 Tryz.prog Tryz.growPt_ren := {
  mixed := by kernel_rfl
  f4 := ⟨Tryz.f74.name, by decide, Tryz.func74.trans (congrArg some (by kernel_rfl))⟩
  t0 := Tryz.underlying0
  a0 := Tryz.isAgg0
  z0 := Tryz.sizeOf0
  v0 := Tryz.zeroValue0
  t3 := Tryz.underlying3
  a3 := Tryz.isAgg3
  z3 := Tryz.sizeOf3
  v3 := Tryz.zeroValue3
  t4 := Tryz.underlying4
  a4 := Tryz.isAgg4
  z4 := Tryz.sizeOf4
  v4 := Tryz.zeroValue4
  t9 := Tryz.underlying9
  a9 := Tryz.isAgg9
  z9 := Tryz.sizeOf9
  v9 := Tryz.zeroValue9
  t20 := Tryz.underlying20
  a20 := Tryz.isAgg20
  z20 := Tryz.sizeOf20
  v20 := Tryz.zeroValue20
  t22 := Tryz.underlying31
  a22 := Tryz.isAgg31
  z22 := Tryz.sizeOf31
  v22 := Tryz.zeroValue31 }
def Tryz.growIn_ren : Go.Shelf.Ren := ⟨fun | 4 => 70 | n => n, fun | 22 => 25 | 25 => 3 | 3 => 3 | 4 => 4 | 9 => 9 | 20 => 20 | 0 => 0 | n => n, fun | n => n⟩
theorem Tryz.growIn : Go.Proofs.Lays8.n4 Tryz.prog Tryz.growIn_ren := {
  mixed := by kernel_rfl
  f4 := ⟨Tryz.f70.name, by decide, Tryz.func70.trans (congrArg some (by kernel_rfl))⟩
  t0 := Tryz.underlying0
  a0 := Tryz.isAgg0
  z0 := Tryz.sizeOf0
  v0 := Tryz.zeroValue0
  t3 := Tryz.underlying3
  a3 := Tryz.isAgg3
  z3 := Tryz.sizeOf3
  v3 := Tryz.zeroValue3
  t4 := Tryz.underlying4
  a4 := Tryz.isAgg4
  z4 := Tryz.sizeOf4
  v4 := Tryz.zeroValue4
  t9 := Tryz.underlying9
  a9 := Tryz.isAgg9
  z9 := Tryz.sizeOf9
  v9 := Tryz.zeroValue9
  t20 := Tryz.underlying20
  a20 := Tryz.isAgg20
  z20 := Tryz.sizeOf20
  v20 := Tryz.zeroValue20
  t22 := Tryz.underlying25
  a22 := Tryz.isAgg25
  z22 := Tryz.sizeOf25
  v22 := Tryz.zeroValue25 }
def Tryz.growTk_ren : Go.Shelf.Ren := ⟨fun | 4 => 73 | n => n, fun | 22 => 22 | 25 => 47 | 3 => 3 | 4 => 4 | 9 => 9 | 20 => 20 | 0 => 0 | n => n, fun | n => n⟩
theorem Tryz.growTk : Go.Proofs.Lays8.n4 Tryz.prog Tryz.growTk_ren := {
  mixed := by kernel_rfl
  f4 := ⟨Tryz.f73.name, by decide, Tryz.func73.trans (congrArg some (by kernel_rfl))⟩
  t0 := Tryz.underlying0
  a0 := Tryz.isAgg0
  z0 := Tryz.sizeOf0
  v0 := Tryz.zeroValue0
  t3 := Tryz.underlying3
  a3 := Tryz.isAgg3
  z3 := Tryz.sizeOf3
  v3 := Tryz.zeroValue3
  t4 := Tryz.underlying4
  a4 := Tryz.isAgg4
  z4 := Tryz.sizeOf4
  v4 := Tryz.zeroValue4
  t9 := Tryz.underlying9
  a9 := Tryz.isAgg9
  z9 := Tryz.sizeOf9
  v9 := Tryz.zeroValue9
  t20 := Tryz.underlying20
  a20 := Tryz.isAgg20
  z20 := Tryz.sizeOf20
  v20 := Tryz.zeroValue20
  t22 := Tryz.underlying22
  a22 := Tryz.isAgg22
  z22 := Tryz.sizeOf22
  v22 := Tryz.zeroValue22 }
end Go.Proofs
