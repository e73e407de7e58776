/-
  What the walks lean on, part 12: AmMayB.
-/
import Derived.Test.YtcmgkjjkhfcedaaGreatPk11
/-
  The program's admit (stage 18): a task that may be, no two on one line, May (written by tools/gen/ammayb.py).
-/
namespace Go.Proofs.YtcmgkjjkhfcedaaGreat
open Go.ChangeShapes Go.WideShapes Go.ChangeAt Go.RowKit
set_option linter.unusedVariables false
set_option linter.unusedSimpArgs false
theorem mayT_parts (m l : Nat) (cls lev per dl bud line : Int) (us : List Int) (qn un : Nat) (hu : us.length = un) : (decide (cls ≠ 0) && mayP ⟨cls, lev, 0⟩ && timeOk per dl bud && decide (-1 ≤ line ∧ line ≤ (l : Int) - 1) && (decide ((un : Int) ≤ 6) && us.all (isMu m)) && decide (qn ≤ 40)) = mayT m l ⟨cls, lev, per, dl, bud, line, us, qn⟩ := by
  unfold mayT timeOk
  dsimp only
  have e1 : (decide (cls ≠ 0) && mayP ⟨cls, lev, 0⟩) = decide ((cls = 2 ∧ 0 ≤ lev ∧ lev ≤ 63) ∨ (cls = 1 ∧ lev = 0)) := by
    unfold mayP
    dsimp only
    rw [Bool.eq_iff_iff]
    by_cases c0 : cls = 0
    · simp [c0]
    · by_cases c1 : cls = 1
      · simp [c1]
      · by_cases c2 : cls = 2
        · simp [c2]
        · simp [c0, c1, c2]
  have e2 : decide (-1 ≤ line ∧ line ≤ (l : Int) - 1) = decide (-1 ≤ line ∧ line < (l : Int)) := by
    rw [Bool.eq_iff_iff]; simp only [decide_eq_true_eq]; omega
  have e3 : decide ((un : Int) ≤ 6) = decide (us.length ≤ 6) := by
    rw [hu, Bool.eq_iff_iff]; simp only [decide_eq_true_eq]; omega
  rw [e1, e2, e3]
  cases decide ((cls = 2 ∧ 0 ≤ lev ∧ lev ≤ 63) ∨ (cls = 1 ∧ lev = 0)) <;> cases decide (1 ≤ per ∧ per ≤ 1000000) <;> cases decide (1 ≤ dl ∧ dl ≤ per) <;> cases decide (1 ≤ bud ∧ bud ≤ dl) <;> cases decide (-1 ≤ line ∧ line < (l : Int)) <;> cases decide (us.length ≤ 6) <;> cases decide (qn ≤ 40) <;> cases us.all (isMu m) <;> rfl
set_option maxRecDepth 10000 in
set_option maxHeartbeats 8000000 in
theorem atask_any (w : World) (ta : Option Addr) (tn tc : Nat) (ea : Option Addr) (en ec : Nat) (ma : Option Addr) (mn mc : Nat) (ga : Option Addr) (gn gc : Nat) (frames dog : Int) (hmn : mn ≤ 12) (hgn : gn ≤ 12) (cls lev per dl bud line : Int) (ua : Option Addr) (un uc : Nat) (qa : Option Addr) (qn qc : Nat) (us : List Int) (hu : Reads 1 nuVals w ua un us) (hun : un ≤ 12) :
    Calls Tryz.prog 26 #[.agg #[.slice ta tn tc, .slice ea en ec, .slice ma mn mc, .slice ga gn gc, .int .i64 frames, .int .i64 dog], .agg #[.int .i64 cls, .int .i64 lev, .int .i64 per, .int .i64 dl, .int .i64 bud, .int .i64 line, .slice ua un uc, .slice qa qn qc]] w fun e w' => e = .returned (.bool (mayT mn gn ⟨cls, lev, per, dl, bud, line, us, qn⟩)) ∧ Below w.heap.size w w' := by
  obtain ⟨w2, hw2⟩ : ∃ z, z = (w.alloc (.cells #[.slice ta tn tc, .slice ea en ec, .slice ma mn mc, .slice ga gn gc, .int .i64 frames, .int .i64 dog] 64)).alloc (.cells #[.int .i64 cls, .int .i64 lev, .int .i64 per, .int .i64 dl, .int .i64 bud, .int .i64 line, .slice ua un uc, .slice qa qn qc] 47) := ⟨_, rfl⟩
  have eA : w2.heap[w.heap.size]? = some (.cells #[.slice ta tn tc, .slice ea en ec, .slice ma mn mc, .slice ga gn gc, .int .i64 frames, .int .i64 dog] 64 (0, 0)) := by rw [hw2]; exact heap_alloc2_old _ _ _
  have eB : w2.heap[w.heap.size + 1]? = some (.cells #[.int .i64 cls, .int .i64 lev, .int .i64 per, .int .i64 dl, .int .i64 bud, .int .i64 line, .slice ua un uc, .slice qa qn qc] 47 (0, 0)) := by rw [hw2]; exact heap_alloc2_new _ _ _
  have B0 := hide (show Below w.heap.size w w2 from by rw [hw2]; exact ((Below.refl _ _).alloc (Nat.le_refl _) _).alloc (by simp) _)
  have SC := hide (show ∀ Y : World, Below w2.heap.size w2 Y → Y.cell? ⟨w.heap.size, 0, none⟩ = some (.slice ta tn tc) ∧ Y.cell? ⟨w.heap.size, 1, none⟩ = some (.slice ea en ec) ∧ Y.cell? ⟨w.heap.size, 2, none⟩ = some (.slice ma mn mc) ∧ Y.cell? ⟨w.heap.size, 3, none⟩ = some (.slice ga gn gc) ∧ Y.cell? ⟨w.heap.size, 4, none⟩ = some (.int .i64 frames) ∧ Y.cell? ⟨w.heap.size, 5, none⟩ = some (.int .i64 dog) ∧ Y.cell? ⟨w.heap.size + 1, 0, none⟩ = some (.int .i64 cls) ∧ Y.cell? ⟨w.heap.size + 1, 1, none⟩ = some (.int .i64 lev) ∧ Y.cell? ⟨w.heap.size + 1, 2, none⟩ = some (.int .i64 per) ∧ Y.cell? ⟨w.heap.size + 1, 3, none⟩ = some (.int .i64 dl) ∧ Y.cell? ⟨w.heap.size + 1, 4, none⟩ = some (.int .i64 bud) ∧ Y.cell? ⟨w.heap.size + 1, 5, none⟩ = some (.int .i64 line) ∧ Y.cell? ⟨w.heap.size + 1, 6, none⟩ = some (.slice ua un uc) ∧ Y.cell? ⟨w.heap.size + 1, 7, none⟩ = some (.slice qa qn qc) from fun Y b => by
    have e1 := (b.block _ (lt_of_heap eA)).trans eA
    have e2 := (b.block _ (lt_of_heap eB)).trans eB
    refine ⟨?_, ?_, ?_, ?_, ?_, ?_, ?_, ?_, ?_, ?_, ?_, ?_, ?_, ?_⟩ <;> first | (rw [cell_of_row _ _ _ _ _ _ e1]; rfl) | (rw [cell_of_row _ _ _ _ _ _ e2]; rfl))
  have HW := hide hw2
  clear hw2 eA eB
  rw [← mayT_parts mn gn cls lev per dl bud line us qn un hu.1]
  obtain ⟨G1, hG1⟩ : ∃ G1, G1 = (gn : Int) - 1 := ⟨_, rfl⟩
  have wg : IntKind.i64.wrap ((gn : Int) - 1) = G1 := by rw [hG1]; exact IntWalk.i64_in _ (by omega)
  rw [← hG1]
  obtain ⟨c2, h2⟩ : ∃ b, b = mayP ⟨cls, lev, 0⟩ := ⟨_, rfl⟩
  obtain ⟨c3, h3⟩ : ∃ b, b = timeOk per dl bud := ⟨_, rfl⟩
  obtain ⟨c4, h4⟩ : ∃ b, b = decide (-1 ≤ line ∧ line ≤ G1) := ⟨_, rfl⟩
  obtain ⟨c5, h5⟩ : ∃ b, b = (decide ((un : Int) ≤ 6) && us.all (isMu mn)) := ⟨_, rfl⟩
  obtain ⟨c6, h6⟩ : ∃ b, b = decide (qn ≤ 40) := ⟨_, rfl⟩
  have hmf : ∀ (fn : Fn) (first cap : Array Value) (w : World), (Instr.makeFunc fn first cap).run Tryz.prog w = .ok (.func fn first cap) w := fun _ _ _ _ => rfl
  have I1 := hide (fun W => abase_any W cls lev per dl bud line ua un uc qa qn qc)
  have I2 := hide (show ∀ W, Calls Tryz.prog 60 #[.agg #[.int .i64 cls, .int .i64 lev, .int .i64 0]] W fun e w' => e = .returned (.bool c2) ∧ Below W.heap.size W w' from fun W => by rw [h2]; exact pmay_any W cls lev 0)
  have I3 := hide (show ∀ W, Calls Tryz.prog 63 #[.agg #[.int .i64 cls, .int .i64 lev, .int .i64 per, .int .i64 dl, .int .i64 bud, .int .i64 line, .slice ua un uc, .slice qa qn qc]] W fun e w' => e = .returned (.bool c3) ∧ Below W.heap.size W w' from fun W => by rw [h3]; exact atime_any W cls lev per dl bud line ua un uc qa qn qc)
  have I4 := hide (fun W => awithin_is line (-1) G1 c4 h4 W)
  have I5 := hide (show ∀ W, Below w.heap.size w W → Calls Tryz.prog 21 #[.slice ua un uc, .int .i64 6, .func (.func 64) #[.agg #[.slice ta tn tc, .slice ea en ec, .slice ma mn mc, .slice ga gn gc, .int .i64 frames, .int .i64 dog]] #[]] W fun e w' => e = .returned (.bool c5) ∧ Below W.heap.size W w' from fun W b => by rw [h5]; exact aeach_mut W ta tn tc ea en ec ma mn mc ga gn gc frames dog ua un uc us (hu.below b) (by omega) 6 hmn)
  have I6 := hide (show ∀ W, Calls Tryz.prog 61 #[.slice qa qn qc] W fun e w' => e = .returned (.bool c6) ∧ W = w' from fun W => by rw [h6]; exact aprog_any qa qn qc W)
  rw [← h2, ← h3, ← h4, ← h5, ← h6]
  clear hu hun hmn hgn hG1 h2 h3 h4 h5 h6
  obtain ⟨k0, k1, k2, k3, k4, k5, z0, z1, z2, z3, z4, z5, z6, z7⟩ := SC.out _ (Below.refl _ _)
  by_cases c1 : cls = 0
  · subst c1
    rw [show decide ((0 : Int) ≠ 0) = false from by decide]
    simp only [Bool.false_and]
    go_enter Tryz.func26, Tryz.ntmps26
    go_upto_region 1 with fail
    rw [← HW.out]
    go_wp2_with (first
      | (go_at_call 62; refine (I1.out _).mono ?_; rintro e w3 ⟨rfl, b3⟩; have D3 := hide b3; clear b3; clear k0 k1 k2 k3 k4 k5 z0 z1 z2 z3 z4 z5 z6 z7; obtain ⟨k0, k1, k2, k3, k4, k5, z0, z1, z2, z3, z4, z5, z6, z7⟩ := SC.out _ D3.out)
      | (go_at_call 60; refine (I2.out _).mono ?_; rintro e w4 ⟨rfl, b4⟩; have D4 := hide (D3.out.trans (b4.mono D3.out.size)); clear b4; clear k0 k1 k2 k3 k4 k5 z0 z1 z2 z3 z4 z5 z6 z7; obtain ⟨k0, k1, k2, k3, k4, k5, z0, z1, z2, z3, z4, z5, z6, z7⟩ := SC.out _ D4.out)
      | (go_at_call 63; refine (I3.out _).mono ?_; rintro e w5 ⟨rfl, b5⟩; have D5 := hide (D4.out.trans (b5.mono D4.out.size)); clear b5; clear k0 k1 k2 k3 k4 k5 z0 z1 z2 z3 z4 z5 z6 z7; obtain ⟨k0, k1, k2, k3, k4, k5, z0, z1, z2, z3, z4, z5, z6, z7⟩ := SC.out _ D5.out)
      | (go_at_call 20; refine (I4.out _).mono ?_; rintro e w' ⟨rfl, rfl⟩)
      | (go_at_call 21; refine (I5.out _ (B0.out.trans (D5.out.mono B0.out.size))).mono ?_; rintro e w6 ⟨rfl, b6⟩; have D6 := hide (D5.out.trans (b6.mono D5.out.size)); clear b6; clear k0 k1 k2 k3 k4 k5 z0 z1 z2 z3 z4 z5 z6 z7; obtain ⟨k0, k1, k2, k3, k4, k5, z0, z1, z2, z3, z4, z5, z6, z7⟩ := SC.out _ D6.out)
      | (go_at_call 61; refine (I6.out _).mono ?_; rintro e w' ⟨rfl, rfl⟩)
      | fail)
    go_ret
    exact ⟨rfl, by first | exact B0.out.trans (D6.out.mono B0.out.size) | exact B0.out.trans (D5.out.mono B0.out.size) | exact B0.out.trans (D4.out.mono B0.out.size) | exact B0.out⟩
  have c1' : (cls == 0) = false := by simpa using c1
  have c1n : (cls != 0) = true := by simpa using c1
  rw [decide_eq_true c1]
  clear c1
  cases c2 with
  | false =>
    go_enter Tryz.func26, Tryz.ntmps26
    go_upto_region 1 with fail
    rw [← HW.out]
    go_wp2_with (first
      | (go_at_call 62; refine (I1.out _).mono ?_; rintro e w3 ⟨rfl, b3⟩; have D3 := hide b3; clear b3; clear k0 k1 k2 k3 k4 k5 z0 z1 z2 z3 z4 z5 z6 z7; obtain ⟨k0, k1, k2, k3, k4, k5, z0, z1, z2, z3, z4, z5, z6, z7⟩ := SC.out _ D3.out)
      | (go_at_call 60; refine (I2.out _).mono ?_; rintro e w4 ⟨rfl, b4⟩; have D4 := hide (D3.out.trans (b4.mono D3.out.size)); clear b4; clear k0 k1 k2 k3 k4 k5 z0 z1 z2 z3 z4 z5 z6 z7; obtain ⟨k0, k1, k2, k3, k4, k5, z0, z1, z2, z3, z4, z5, z6, z7⟩ := SC.out _ D4.out)
      | (go_at_call 63; refine (I3.out _).mono ?_; rintro e w5 ⟨rfl, b5⟩; have D5 := hide (D4.out.trans (b5.mono D4.out.size)); clear b5; clear k0 k1 k2 k3 k4 k5 z0 z1 z2 z3 z4 z5 z6 z7; obtain ⟨k0, k1, k2, k3, k4, k5, z0, z1, z2, z3, z4, z5, z6, z7⟩ := SC.out _ D5.out)
      | (go_at_call 20; refine (I4.out _).mono ?_; rintro e w' ⟨rfl, rfl⟩)
      | (go_at_call 21; refine (I5.out _ (B0.out.trans (D5.out.mono B0.out.size))).mono ?_; rintro e w6 ⟨rfl, b6⟩; have D6 := hide (D5.out.trans (b6.mono D5.out.size)); clear b6; clear k0 k1 k2 k3 k4 k5 z0 z1 z2 z3 z4 z5 z6 z7; obtain ⟨k0, k1, k2, k3, k4, k5, z0, z1, z2, z3, z4, z5, z6, z7⟩ := SC.out _ D6.out)
      | (go_at_call 61; refine (I6.out _).mono ?_; rintro e w' ⟨rfl, rfl⟩)
      | fail)
    go_ret
    exact ⟨rfl, by first | exact B0.out.trans (D6.out.mono B0.out.size) | exact B0.out.trans (D5.out.mono B0.out.size) | exact B0.out.trans (D4.out.mono B0.out.size) | exact B0.out⟩
  | true =>
    cases c3 with
    | false =>
      go_enter Tryz.func26, Tryz.ntmps26
      go_upto_region 1 with fail
      rw [← HW.out]
      go_wp2_with (first
        | (go_at_call 62; refine (I1.out _).mono ?_; rintro e w3 ⟨rfl, b3⟩; have D3 := hide b3; clear b3; clear k0 k1 k2 k3 k4 k5 z0 z1 z2 z3 z4 z5 z6 z7; obtain ⟨k0, k1, k2, k3, k4, k5, z0, z1, z2, z3, z4, z5, z6, z7⟩ := SC.out _ D3.out)
        | (go_at_call 60; refine (I2.out _).mono ?_; rintro e w4 ⟨rfl, b4⟩; have D4 := hide (D3.out.trans (b4.mono D3.out.size)); clear b4; clear k0 k1 k2 k3 k4 k5 z0 z1 z2 z3 z4 z5 z6 z7; obtain ⟨k0, k1, k2, k3, k4, k5, z0, z1, z2, z3, z4, z5, z6, z7⟩ := SC.out _ D4.out)
        | (go_at_call 63; refine (I3.out _).mono ?_; rintro e w5 ⟨rfl, b5⟩; have D5 := hide (D4.out.trans (b5.mono D4.out.size)); clear b5; clear k0 k1 k2 k3 k4 k5 z0 z1 z2 z3 z4 z5 z6 z7; obtain ⟨k0, k1, k2, k3, k4, k5, z0, z1, z2, z3, z4, z5, z6, z7⟩ := SC.out _ D5.out)
        | (go_at_call 20; refine (I4.out _).mono ?_; rintro e w' ⟨rfl, rfl⟩)
        | (go_at_call 21; refine (I5.out _ (B0.out.trans (D5.out.mono B0.out.size))).mono ?_; rintro e w6 ⟨rfl, b6⟩; have D6 := hide (D5.out.trans (b6.mono D5.out.size)); clear b6; clear k0 k1 k2 k3 k4 k5 z0 z1 z2 z3 z4 z5 z6 z7; obtain ⟨k0, k1, k2, k3, k4, k5, z0, z1, z2, z3, z4, z5, z6, z7⟩ := SC.out _ D6.out)
        | (go_at_call 61; refine (I6.out _).mono ?_; rintro e w' ⟨rfl, rfl⟩)
        | fail)
      go_ret
      exact ⟨rfl, by first | exact B0.out.trans (D6.out.mono B0.out.size) | exact B0.out.trans (D5.out.mono B0.out.size) | exact B0.out.trans (D4.out.mono B0.out.size) | exact B0.out⟩
    | true =>
      cases c4 with
      | false =>
        go_enter Tryz.func26, Tryz.ntmps26
        go_upto_region 1 with fail
        rw [← HW.out]
        go_wp2_with (first
          | (go_at_call 62; refine (I1.out _).mono ?_; rintro e w3 ⟨rfl, b3⟩; have D3 := hide b3; clear b3; clear k0 k1 k2 k3 k4 k5 z0 z1 z2 z3 z4 z5 z6 z7; obtain ⟨k0, k1, k2, k3, k4, k5, z0, z1, z2, z3, z4, z5, z6, z7⟩ := SC.out _ D3.out)
          | (go_at_call 60; refine (I2.out _).mono ?_; rintro e w4 ⟨rfl, b4⟩; have D4 := hide (D3.out.trans (b4.mono D3.out.size)); clear b4; clear k0 k1 k2 k3 k4 k5 z0 z1 z2 z3 z4 z5 z6 z7; obtain ⟨k0, k1, k2, k3, k4, k5, z0, z1, z2, z3, z4, z5, z6, z7⟩ := SC.out _ D4.out)
          | (go_at_call 63; refine (I3.out _).mono ?_; rintro e w5 ⟨rfl, b5⟩; have D5 := hide (D4.out.trans (b5.mono D4.out.size)); clear b5; clear k0 k1 k2 k3 k4 k5 z0 z1 z2 z3 z4 z5 z6 z7; obtain ⟨k0, k1, k2, k3, k4, k5, z0, z1, z2, z3, z4, z5, z6, z7⟩ := SC.out _ D5.out)
          | (go_at_call 20; refine (I4.out _).mono ?_; rintro e w' ⟨rfl, rfl⟩)
          | (go_at_call 21; refine (I5.out _ (B0.out.trans (D5.out.mono B0.out.size))).mono ?_; rintro e w6 ⟨rfl, b6⟩; have D6 := hide (D5.out.trans (b6.mono D5.out.size)); clear b6; clear k0 k1 k2 k3 k4 k5 z0 z1 z2 z3 z4 z5 z6 z7; obtain ⟨k0, k1, k2, k3, k4, k5, z0, z1, z2, z3, z4, z5, z6, z7⟩ := SC.out _ D6.out)
          | (go_at_call 61; refine (I6.out _).mono ?_; rintro e w' ⟨rfl, rfl⟩)
          | fail)
        go_ret
        exact ⟨rfl, by first | exact B0.out.trans (D6.out.mono B0.out.size) | exact B0.out.trans (D5.out.mono B0.out.size) | exact B0.out.trans (D4.out.mono B0.out.size) | exact B0.out⟩
      | true =>
        cases c5 with
        | false =>
          go_enter Tryz.func26, Tryz.ntmps26
          go_upto_region 1 with fail
          rw [← HW.out]
          go_wp2_with (first
            | (go_at_call 62; refine (I1.out _).mono ?_; rintro e w3 ⟨rfl, b3⟩; have D3 := hide b3; clear b3; clear k0 k1 k2 k3 k4 k5 z0 z1 z2 z3 z4 z5 z6 z7; obtain ⟨k0, k1, k2, k3, k4, k5, z0, z1, z2, z3, z4, z5, z6, z7⟩ := SC.out _ D3.out)
            | (go_at_call 60; refine (I2.out _).mono ?_; rintro e w4 ⟨rfl, b4⟩; have D4 := hide (D3.out.trans (b4.mono D3.out.size)); clear b4; clear k0 k1 k2 k3 k4 k5 z0 z1 z2 z3 z4 z5 z6 z7; obtain ⟨k0, k1, k2, k3, k4, k5, z0, z1, z2, z3, z4, z5, z6, z7⟩ := SC.out _ D4.out)
            | (go_at_call 63; refine (I3.out _).mono ?_; rintro e w5 ⟨rfl, b5⟩; have D5 := hide (D4.out.trans (b5.mono D4.out.size)); clear b5; clear k0 k1 k2 k3 k4 k5 z0 z1 z2 z3 z4 z5 z6 z7; obtain ⟨k0, k1, k2, k3, k4, k5, z0, z1, z2, z3, z4, z5, z6, z7⟩ := SC.out _ D5.out)
            | (go_at_call 20; refine (I4.out _).mono ?_; rintro e w' ⟨rfl, rfl⟩)
            | (go_at_call 21; refine (I5.out _ (B0.out.trans (D5.out.mono B0.out.size))).mono ?_; rintro e w6 ⟨rfl, b6⟩; have D6 := hide (D5.out.trans (b6.mono D5.out.size)); clear b6; clear k0 k1 k2 k3 k4 k5 z0 z1 z2 z3 z4 z5 z6 z7; obtain ⟨k0, k1, k2, k3, k4, k5, z0, z1, z2, z3, z4, z5, z6, z7⟩ := SC.out _ D6.out)
            | (go_at_call 61; refine (I6.out _).mono ?_; rintro e w' ⟨rfl, rfl⟩)
            | fail)
          go_ret
          exact ⟨rfl, by first | exact B0.out.trans (D6.out.mono B0.out.size) | exact B0.out.trans (D5.out.mono B0.out.size) | exact B0.out.trans (D4.out.mono B0.out.size) | exact B0.out⟩
        | true =>
          cases c6 with
          | false =>
            go_enter Tryz.func26, Tryz.ntmps26
            go_upto_region 1 with fail
            rw [← HW.out]
            go_wp2_with (first
              | (go_at_call 62; refine (I1.out _).mono ?_; rintro e w3 ⟨rfl, b3⟩; have D3 := hide b3; clear b3; clear k0 k1 k2 k3 k4 k5 z0 z1 z2 z3 z4 z5 z6 z7; obtain ⟨k0, k1, k2, k3, k4, k5, z0, z1, z2, z3, z4, z5, z6, z7⟩ := SC.out _ D3.out)
              | (go_at_call 60; refine (I2.out _).mono ?_; rintro e w4 ⟨rfl, b4⟩; have D4 := hide (D3.out.trans (b4.mono D3.out.size)); clear b4; clear k0 k1 k2 k3 k4 k5 z0 z1 z2 z3 z4 z5 z6 z7; obtain ⟨k0, k1, k2, k3, k4, k5, z0, z1, z2, z3, z4, z5, z6, z7⟩ := SC.out _ D4.out)
              | (go_at_call 63; refine (I3.out _).mono ?_; rintro e w5 ⟨rfl, b5⟩; have D5 := hide (D4.out.trans (b5.mono D4.out.size)); clear b5; clear k0 k1 k2 k3 k4 k5 z0 z1 z2 z3 z4 z5 z6 z7; obtain ⟨k0, k1, k2, k3, k4, k5, z0, z1, z2, z3, z4, z5, z6, z7⟩ := SC.out _ D5.out)
              | (go_at_call 20; refine (I4.out _).mono ?_; rintro e w' ⟨rfl, rfl⟩)
              | (go_at_call 21; refine (I5.out _ (B0.out.trans (D5.out.mono B0.out.size))).mono ?_; rintro e w6 ⟨rfl, b6⟩; have D6 := hide (D5.out.trans (b6.mono D5.out.size)); clear b6; clear k0 k1 k2 k3 k4 k5 z0 z1 z2 z3 z4 z5 z6 z7; obtain ⟨k0, k1, k2, k3, k4, k5, z0, z1, z2, z3, z4, z5, z6, z7⟩ := SC.out _ D6.out)
              | (go_at_call 61; refine (I6.out _).mono ?_; rintro e w' ⟨rfl, rfl⟩)
              | fail)
            go_ret
            exact ⟨rfl, by first | exact B0.out.trans (D6.out.mono B0.out.size) | exact B0.out.trans (D5.out.mono B0.out.size) | exact B0.out.trans (D4.out.mono B0.out.size) | exact B0.out⟩
          | true =>
            go_enter Tryz.func26, Tryz.ntmps26
            go_upto_region 1 with fail
            rw [← HW.out]
            go_wp2_with (first
              | (go_at_call 62; refine (I1.out _).mono ?_; rintro e w3 ⟨rfl, b3⟩; have D3 := hide b3; clear b3; clear k0 k1 k2 k3 k4 k5 z0 z1 z2 z3 z4 z5 z6 z7; obtain ⟨k0, k1, k2, k3, k4, k5, z0, z1, z2, z3, z4, z5, z6, z7⟩ := SC.out _ D3.out)
              | (go_at_call 60; refine (I2.out _).mono ?_; rintro e w4 ⟨rfl, b4⟩; have D4 := hide (D3.out.trans (b4.mono D3.out.size)); clear b4; clear k0 k1 k2 k3 k4 k5 z0 z1 z2 z3 z4 z5 z6 z7; obtain ⟨k0, k1, k2, k3, k4, k5, z0, z1, z2, z3, z4, z5, z6, z7⟩ := SC.out _ D4.out)
              | (go_at_call 63; refine (I3.out _).mono ?_; rintro e w5 ⟨rfl, b5⟩; have D5 := hide (D4.out.trans (b5.mono D4.out.size)); clear b5; clear k0 k1 k2 k3 k4 k5 z0 z1 z2 z3 z4 z5 z6 z7; obtain ⟨k0, k1, k2, k3, k4, k5, z0, z1, z2, z3, z4, z5, z6, z7⟩ := SC.out _ D5.out)
              | (go_at_call 20; refine (I4.out _).mono ?_; rintro e w' ⟨rfl, rfl⟩)
              | (go_at_call 21; refine (I5.out _ (B0.out.trans (D5.out.mono B0.out.size))).mono ?_; rintro e w6 ⟨rfl, b6⟩; have D6 := hide (D5.out.trans (b6.mono D5.out.size)); clear b6; clear k0 k1 k2 k3 k4 k5 z0 z1 z2 z3 z4 z5 z6 z7; obtain ⟨k0, k1, k2, k3, k4, k5, z0, z1, z2, z3, z4, z5, z6, z7⟩ := SC.out _ D6.out)
              | (go_at_call 61; refine (I6.out _).mono ?_; rintro e w' ⟨rfl, rfl⟩)
              | fail)
            go_ret
            exact ⟨rfl, by first | exact B0.out.trans (D6.out.mono B0.out.size) | exact B0.out.trans (D5.out.mono B0.out.size) | exact B0.out.trans (D4.out.mono B0.out.size) | exact B0.out⟩
set_option maxHeartbeats 4000000 in
theorem aeach_tk (w : World) (ta : Option Addr) (tn tc : Nat) (ea : Option Addr) (en ec : Nat) (ma : Option Addr) (mn mc : Nat) (ga : Option Addr) (gn gc : Nat) (frames dog : Int) (hmn : mn ≤ 12) (hgn : gn ≤ 12) (a : Option Addr) (n c : Nat) (xs : List Tk) (hr : Reads 8 tkVals w a n xs) (hn : n ≤ 100) (most : Int) (hx : ∀ x ∈ xs, Reads 1 nuVals w x.ua x.un x.us ∧ x.un ≤ 12) :
    Calls Tryz.prog 25 #[.slice a n c, .int .i64 most, .func (.func 26) #[.agg #[.slice ta tn tc, .slice ea en ec, .slice ma mn mc, .slice ga gn gc, .int .i64 frames, .int .i64 dog]] #[]] w fun e w' => e = .returned (.bool (decide ((n : Int) ≤ most) && xs.all (fun x => mayT mn gn (tpOf x)))) ∧ Below w.heap.size w w' := by
  have HR := hide (fun (W : World) (b : Below w.heap.size w W) => hr.below b)
  have HL := hide hr.1
  have n2 : (n : Int) ≤ 1000 := by omega
  have CF := hide (show ∀ W : World, Below w.heap.size w W → ∀ x ∈ xs, Calls Tryz.prog 26 #[.agg #[.slice ta tn tc, .slice ea en ec, .slice ma mn mc, .slice ga gn gc, .int .i64 frames, .int .i64 dog], .agg #[.int .i64 x.cls, .int .i64 x.lev, .int .i64 x.per, .int .i64 x.dl, .int .i64 x.bud, .int .i64 x.line, .slice x.ua x.un x.uc, .slice x.qa x.qn x.qc]] W fun e w' => e = .returned (.bool (mayT mn gn (tpOf x))) ∧ Below W.heap.size W w' from fun W b x hm => atask_any W ta tn tc ea en ec ma mn mc ga gn gc frames dog hmn hgn x.cls x.lev x.per x.dl x.bud x.line x.ua x.un x.uc x.qa x.qn x.qc x.us ((hx x hm).1.below b) (hx x hm).2)
  clear hr hn hx
  by_cases hm : most < (n : Int)
  · rw [show decide ((n : Int) ≤ most) = false from decide_eq_false (by omega), Bool.false_and]
    go_enter Tryz.func25, Tryz.ntmps25
    go_wp2_with fail
    go_ret
    exact ⟨rfl, Below.refl _ _⟩
  rw [show decide ((n : Int) ≤ most) = true from decide_eq_true (by omega), Bool.true_and]
  obtain ⟨R, hR⟩ : ∃ R, R = xs.all (fun x => mayT mn gn (tpOf x)) := ⟨_, rfl⟩
  have HRR := hide hR
  rw [← hR]
  clear hR
  go_enter Tryz.func25, Tryz.ntmps25
  go_wp2_with fail
  go_loopw [15] (fun iv wr => ∃ i : Nat, i ≤ n ∧ iv = .int .i64 (i : Int) ∧ Hid (Below w.heap.size w wr) ∧ Hid (∀ (j : Nat) (x : Tk), j < i → xs[j]? = some x → (mayT mn gn (tpOf x)) = true)) (fun iv _ => n - (intOf iv).toNat)
  case atStart => exact ⟨0, Nat.zero_le _, rfl, Below.refl _ _, fun j x hj => absurd hj (by omega)⟩
  case round =>
    obtain ⟨i, hi, rfl, hB, hA⟩ := hrel
    rename World => w1
    have B1 := hide hB.out
    have A1 := hide hA.out
    clear hB hA
    by_cases hlt : i < n
    · have i0 : (0 : Int) ≤ (i : Int) := by omega
      have i1 : (i : Int) < (n : Int) := by omega
      obtain ⟨x, pb, po, hx, rfl, hc⟩ := (HR.out _ B1.out).at_ hlt
      have y0 : w1.cell? ⟨pb, po + i * 8, none⟩ = some (.int .i64 x.cls) := hc 0 _ rfl
      have y1 : w1.cell? ⟨pb, po + i * 8 + 1, none⟩ = some (.int .i64 x.lev) := hc 1 _ rfl
      have y2 : w1.cell? ⟨pb, po + i * 8 + 2, none⟩ = some (.int .i64 x.per) := hc 2 _ rfl
      have y3 : w1.cell? ⟨pb, po + i * 8 + 3, none⟩ = some (.int .i64 x.dl) := hc 3 _ rfl
      have y4 : w1.cell? ⟨pb, po + i * 8 + 4, none⟩ = some (.int .i64 x.bud) := hc 4 _ rfl
      have y5 : w1.cell? ⟨pb, po + i * 8 + 5, none⟩ = some (.int .i64 x.line) := hc 5 _ rfl
      have y6 : w1.cell? ⟨pb, po + i * 8 + 6, none⟩ = some (.slice x.ua x.un x.uc) := hc 6 _ rfl
      have y7 : w1.cell? ⟨pb, po + i * 8 + 7, none⟩ = some (.slice x.qa x.qn x.qc) := hc 7 _ rfl
      obtain ⟨w2, hw2⟩ : ∃ w2, w2 = w1.alloc (.cells #[.int .i64 x.cls, .int .i64 x.lev, .int .i64 x.per, .int .i64 x.dl, .int .i64 x.bud, .int .i64 x.line, .slice x.ua x.un x.uc, .slice x.qa x.qn x.qc] 47) := ⟨_, rfl⟩
      have b2 : Below w.heap.size w w2 := by rw [hw2]; exact B1.out.alloc B1.out.size _
      have e2 : w2.heap[w1.heap.size]? = some (.cells #[.int .i64 x.cls, .int .i64 x.lev, .int .i64 x.per, .int .i64 x.dl, .int .i64 x.bud, .int .i64 x.line, .slice x.ua x.un x.uc, .slice x.qa x.qn x.qc] 47 (0, 0)) := by rw [hw2]; exact heap_alloc_new _ _
      have z0 : w2.cell? ⟨w1.heap.size, 0, none⟩ = some (.int .i64 x.cls) := by rw [cell_of_row _ _ _ _ _ _ e2]; rfl
      have z1 : w2.cell? ⟨w1.heap.size, 1, none⟩ = some (.int .i64 x.lev) := by rw [cell_of_row _ _ _ _ _ _ e2]; rfl
      have z2 : w2.cell? ⟨w1.heap.size, 2, none⟩ = some (.int .i64 x.per) := by rw [cell_of_row _ _ _ _ _ _ e2]; rfl
      have z3 : w2.cell? ⟨w1.heap.size, 3, none⟩ = some (.int .i64 x.dl) := by rw [cell_of_row _ _ _ _ _ _ e2]; rfl
      have z4 : w2.cell? ⟨w1.heap.size, 4, none⟩ = some (.int .i64 x.bud) := by rw [cell_of_row _ _ _ _ _ _ e2]; rfl
      have z5 : w2.cell? ⟨w1.heap.size, 5, none⟩ = some (.int .i64 x.line) := by rw [cell_of_row _ _ _ _ _ _ e2]; rfl
      have z6 : w2.cell? ⟨w1.heap.size, 6, none⟩ = some (.slice x.ua x.un x.uc) := by rw [cell_of_row _ _ _ _ _ _ e2]; rfl
      have z7 : w2.cell? ⟨w1.heap.size, 7, none⟩ = some (.slice x.qa x.qn x.qc) := by rw [cell_of_row _ _ _ _ _ _ e2]; rfl
      have C := hide (CF.out w2 b2 x (List.mem_of_getElem? hx))
      have X := hide hx
      have BX := hide b2
      have HW2 := hide hw2
      clear hw2 b2 e2
      obtain ⟨r, hr⟩ : ∃ r, r = (mayT mn gn (tpOf x)) := ⟨_, rfl⟩
      rw [← hr] at C
      have ER := hide hr.symm
      clear hc hx hr
      cases r with
      | false =>
        have NO := hide (show R = false from by rw [HRR.out]; exact all_false X.out ER.out)
        go_upto_region 6 with fail
        rw [← HW2.out]
        go_wp2_with (go_at_call 26; refine C.out.mono ?_; rintro e w3 ⟨rfl, b3⟩; have B3 := hide (BX.out.trans (b3.mono BX.out.size)); clear b3)
        go_ret
        exact ⟨by rw [NO.out]; rfl, B3.out⟩
      | true =>
        go_upto_region 6 with fail
        rw [← HW2.out]
        go_wp2_with (go_at_call 26; refine C.out.mono ?_; rintro e w3 ⟨rfl, b3⟩; have B3 := hide (BX.out.trans (b3.mono BX.out.size)); clear b3)
        go_roundw
        case rel =>
          refine ⟨i + 1, by omega, by go_num, B3.out, fun j u hj hu => ?_⟩
          by_cases hji : j < i
          · exact A1.out j u hji hu
          · obtain rfl : j = i := by omega
            rw [X.out] at hu; injection hu with hu; subst hu; exact ER.out
        case measure => simp [intOf]; omega
    · obtain rfl : i = n := by omega
      have YES := hide (show R = true from by
        rw [HRR.out]
        exact List.all_eq_true.2 fun x hx => by
          obtain ⟨j, hj⟩ := List.getElem?_of_mem hx
          exact A1.out j x (by have := (List.getElem?_eq_some_iff.1 hj).1; have := HL.out; omega) hj)
      clear hlt hi
      go_wp2_with fail
      go_ret
      exact ⟨by rw [YES.out]; rfl, B1.out⟩
/-- What slices.IndexFunc answers: a place, where there is one. -/
def HitIs {α : Type} (p : α → Bool) (xs : List α) (v : Value) : Prop := ∃ r : Int, v = .int .i64 r ∧ decide (0 ≤ r) = xs.any p
theorem any_at {α : Type} {f : α → Bool} {l : List α} {i : Nat} {x : α} (h : l[i]? = some x) (hf : f x = true) : l.any f = true := List.any_eq_true.2 ⟨x, List.mem_of_getElem? h, hf⟩
theorem any_none {α : Type} {f : α → Bool} {l : List α} {n : Nat} (hl : l.length = n) (h : ∀ (j : Nat) (x : α), j < n → l[j]? = some x → f x = false) : l.any f = false := by
  cases e : l.any f
  · rfl
  · obtain ⟨x, hx, hf⟩ := List.any_eq_true.1 e
    obtain ⟨j, hj⟩ := List.getElem?_of_mem hx
    rw [h j x (by have := (List.getElem?_eq_some_iff.1 hj).1; omega) hj] at hf
    cases hf
set_option maxHeartbeats 4000000 in
theorem arelh_ix (w : World) (l : Int) (a : Option Addr) (n c : Nat) (xs : List Tk) (hr : Reads 8 tkVals w a n xs) (hn : n ≤ 100) :
    Calls Tryz.prog 87 #[.slice a n c, .func (.func 65) #[.int .i64 l] #[]] w fun e w' => ∃ v, e = .returned v ∧ HitIs (fun x => decide (x.line ≠ -1) && decide (x.line = l)) xs v ∧ Below w.heap.size w w' := by
  have HR := hide (fun (W : World) (b : Below w.heap.size w W) => hr.below b)
  have HL := hide hr.1
  have n2 : (n : Int) ≤ 1000 := by omega
  have CF := hide (show ∀ W : World, Below w.heap.size w W → ∀ x ∈ xs, Calls Tryz.prog 65 #[.int .i64 l, .agg #[.int .i64 x.cls, .int .i64 x.lev, .int .i64 x.per, .int .i64 x.dl, .int .i64 x.bud, .int .i64 x.line, .slice x.ua x.un x.uc, .slice x.qa x.qn x.qc]] W fun e w' => e = .returned (.bool (decide (x.line ≠ -1) && decide (x.line = l))) ∧ Below W.heap.size W w' from fun W b x _ => arel_any W l x.cls x.lev x.per x.dl x.bud x.line x.ua x.un x.uc x.qa x.qn x.qc)
  clear hr hn
  go_enter Tryz.func87, Tryz.ntmps87
  go_wp2_with fail
  go_loopw [8] (fun iv wr => ∃ i : Nat, i ≤ n ∧ iv = .int .i64 (i : Int) ∧ Hid (Below w.heap.size w wr) ∧ Hid (∀ (j : Nat) (x : Tk), j < i → xs[j]? = some x → (decide (x.line ≠ -1) && decide (x.line = l)) = false)) (fun iv _ => n - (intOf iv).toNat)
  case atStart => exact ⟨0, Nat.zero_le _, rfl, Below.refl _ _, fun j x hj => absurd hj (by omega)⟩
  case round =>
    obtain ⟨i, hi, rfl, hB, hA⟩ := hrel
    rename World => w1
    have B1 := hide hB.out
    have A1 := hide hA.out
    clear hB hA
    by_cases hlt : i < n
    · have i0 : (0 : Int) ≤ (i : Int) := by omega
      have i1 : (i : Int) < (n : Int) := by omega
      obtain ⟨x, pb, po, hx, rfl, hc⟩ := (HR.out _ B1.out).at_ hlt
      have y0 : w1.cell? ⟨pb, po + i * 8, none⟩ = some (.int .i64 x.cls) := hc 0 _ rfl
      have y1 : w1.cell? ⟨pb, po + i * 8 + 1, none⟩ = some (.int .i64 x.lev) := hc 1 _ rfl
      have y2 : w1.cell? ⟨pb, po + i * 8 + 2, none⟩ = some (.int .i64 x.per) := hc 2 _ rfl
      have y3 : w1.cell? ⟨pb, po + i * 8 + 3, none⟩ = some (.int .i64 x.dl) := hc 3 _ rfl
      have y4 : w1.cell? ⟨pb, po + i * 8 + 4, none⟩ = some (.int .i64 x.bud) := hc 4 _ rfl
      have y5 : w1.cell? ⟨pb, po + i * 8 + 5, none⟩ = some (.int .i64 x.line) := hc 5 _ rfl
      have y6 : w1.cell? ⟨pb, po + i * 8 + 6, none⟩ = some (.slice x.ua x.un x.uc) := hc 6 _ rfl
      have y7 : w1.cell? ⟨pb, po + i * 8 + 7, none⟩ = some (.slice x.qa x.qn x.qc) := hc 7 _ rfl
      have C := hide (CF.out w1 B1.out x (List.mem_of_getElem? hx))
      have X := hide hx
      obtain ⟨r, hr⟩ : ∃ r, r = (decide (x.line ≠ -1) && decide (x.line = l)) := ⟨_, rfl⟩
      rw [← hr] at C
      have ER := hide hr.symm
      clear hc hx hr
      cases r with
      | true =>
        have YES := hide (show HitIs (fun x => decide (x.line ≠ -1) && decide (x.line = l)) xs (.int .i64 (i : Int)) from ⟨(i : Int), rfl, by rw [any_at X.out ER.out]; exact decide_eq_true i0⟩)
        go_wp2_with (go_at_call 65; refine C.out.mono ?_; rintro e w3 ⟨rfl, b3⟩; have B3 := hide (B1.out.trans (b3.mono B1.out.size)); clear b3)
        go_ret
        exact ⟨_, rfl, YES.out, B3.out⟩
      | false =>
        go_wp2_with (go_at_call 65; refine C.out.mono ?_; rintro e w3 ⟨rfl, b3⟩; have B3 := hide (B1.out.trans (b3.mono B1.out.size)); clear b3)
        go_roundw
        case rel =>
          refine ⟨i + 1, by omega, by go_num, B3.out, fun j u hj hu => ?_⟩
          by_cases hji : j < i
          · exact A1.out j u hji hu
          · obtain rfl : j = i := by omega
            rw [X.out] at hu; injection hu with hu; subst hu; exact ER.out
        case measure => simp [intOf]; omega
    · obtain rfl : i = n := by omega
      have NO := hide (show HitIs (fun x => decide (x.line ≠ -1) && decide (x.line = l)) xs (.int .i64 (-1)) from ⟨-1, rfl, by rw [any_none HL.out A1.out]; rfl⟩)
      clear hlt hi
      go_wp2_with fail
      go_ret
      exact ⟨_, rfl, NO.out, B1.out⟩
set_option maxHeartbeats 4000000 in
theorem arelh_ct (w : World) (l : Int) (a : Option Addr) (n c : Nat) (xs : List Tk) (hr : Reads 8 tkVals w a n xs) (hn : n ≤ 100) :
    Calls Tryz.prog 56 #[.slice a n c, .func (.func 65) #[.int .i64 l] #[]] w fun e w' => e = .returned (.bool (xs.any (fun x => decide (x.line ≠ -1) && decide (x.line = l)))) ∧ Below w.heap.size w w' := by
  have C := hide (arelh_ix w l a n c xs hr hn)
  obtain ⟨R, hR⟩ : ∃ R, R = xs.any (fun x => decide (x.line ≠ -1) && decide (x.line = l)) := ⟨_, rfl⟩
  have HRR := hide hR
  rw [← hR]
  clear hr hn hR
  go_enter Tryz.func56, Tryz.ntmps56
  go_wp2_with (go_at_call 87; refine C.out.mono ?_; rintro e w2 ⟨v, rfl, hh, b2⟩; obtain ⟨r, rfl, hr⟩ := hh; have HH := hide hr; have B2 := hide b2; clear hr b2)
  go_ret
  exact ⟨ret_bool (by rw [HRR.out]; exact HH.out), B2.out⟩
set_option maxHeartbeats 8000000 in
theorem aapart_any (w : World) (a : Option Addr) (n c : Nat) (xs : List Tk) (hr : Reads 8 tkVals w a n xs) (hn : n ≤ 100) (hc : n ≤ c) (hcm : c ≤ maxLen) (R : Bool)
    (hR : R = true ↔ ∀ (k i : Nat) (x y : Tk), k < i → xs[k]? = some x → xs[i]? = some y → (decide (x.line ≠ -1) && decide (x.line = y.line)) = false) :
    Calls Tryz.prog 27 #[.slice a n c] w fun e w' => e = .returned (.bool R) ∧ Below w.heap.size w w' := by
  have HR := hide (fun (W : World) (b : Below w.heap.size w W) => hr.below b)
  have HL := hide hr.1
  have n2 : (n : Int) ≤ 1000 := by omega
  have HRR := hide hR
  have CM : (c : Int) ≤ 9223372036854775807 := by unfold maxLen at hcm; omega
  have hmf : ∀ (fn : Fn) (first cap : Array Value) (w : World), (Instr.makeFunc fn first cap).run Tryz.prog w = .ok (.func fn first cap) w := fun _ _ _ _ => rfl
  have CF := hide (fun (W : World) (l : Int) (q : Option Addr) (m d : Nat) (ys : List Tk) (hy : Reads 8 tkVals W q m ys) (hm : m ≤ 100) => arelh_ct W l q m d ys hy hm)
  clear hr hcm hR
  go_enter Tryz.func27, Tryz.ntmps27
  go_wp2_with fail
  go_loopw [7] (fun iv wr => ∃ i : Nat, i ≤ n ∧ iv = .int .i64 (i : Int) ∧ Hid (Below w.heap.size w wr) ∧ Hid (∀ (k j : Nat) (x y : Tk), k < j → j < i → xs[k]? = some x → xs[j]? = some y → (decide (x.line ≠ -1) && decide (x.line = y.line)) = false)) (fun iv _ => n - (intOf iv).toNat)
  case atStart => exact ⟨0, Nat.zero_le _, rfl, Below.refl _ _, fun k j x y _ hj => absurd hj (by omega)⟩
  case round =>
    obtain ⟨i, hi, rfl, hB, hA⟩ := hrel
    rename World => w1
    have B1 := hide hB.out
    have A1 := hide hA.out
    clear hB hA
    by_cases hlt : i < n
    · have i0 : (0 : Int) ≤ (i : Int) := by omega
      have i1 : (i : Int) < (n : Int) := by omega
      have i2 : (i : Int) ≤ (c : Int) := by omega
      have c0 : ¬ c = 0 := by omega
      obtain ⟨x, pb, po, hx, rfl, hcc⟩ := (HR.out _ B1.out).at_ hlt
      have y0 : w1.cell? ⟨pb, po + i * 8, none⟩ = some (.int .i64 x.cls) := hcc 0 _ rfl
      have y1 : w1.cell? ⟨pb, po + i * 8 + 1, none⟩ = some (.int .i64 x.lev) := hcc 1 _ rfl
      have y2 : w1.cell? ⟨pb, po + i * 8 + 2, none⟩ = some (.int .i64 x.per) := hcc 2 _ rfl
      have y3 : w1.cell? ⟨pb, po + i * 8 + 3, none⟩ = some (.int .i64 x.dl) := hcc 3 _ rfl
      have y4 : w1.cell? ⟨pb, po + i * 8 + 4, none⟩ = some (.int .i64 x.bud) := hcc 4 _ rfl
      have y5 : w1.cell? ⟨pb, po + i * 8 + 5, none⟩ = some (.int .i64 x.line) := hcc 5 _ rfl
      have y6 : w1.cell? ⟨pb, po + i * 8 + 6, none⟩ = some (.slice x.ua x.un x.uc) := hcc 6 _ rfl
      have y7 : w1.cell? ⟨pb, po + i * 8 + 7, none⟩ = some (.slice x.qa x.qn x.qc) := hcc 7 _ rfl
      obtain ⟨w2, hw2⟩ : ∃ w2, w2 = w1.alloc (.cells #[.int .i64 x.cls, .int .i64 x.lev, .int .i64 x.per, .int .i64 x.dl, .int .i64 x.bud, .int .i64 x.line, .slice x.ua x.un x.uc, .slice x.qa x.qn x.qc] 47) := ⟨_, rfl⟩
      have b2 : Below w.heap.size w w2 := by rw [hw2]; exact B1.out.alloc B1.out.size _
      have e2 : w2.heap[w1.heap.size]? = some (.cells #[.int .i64 x.cls, .int .i64 x.lev, .int .i64 x.per, .int .i64 x.dl, .int .i64 x.bud, .int .i64 x.line, .slice x.ua x.un x.uc, .slice x.qa x.qn x.qc] 47 (0, 0)) := by rw [hw2]; exact heap_alloc_new _ _
      have z5 : w2.drew.cell? ⟨w1.heap.size, 5, none⟩ = some (.int .i64 x.line) := by show w2.cell? _ = _; rw [cell_of_row _ _ _ _ _ _ e2]; rfl
      have K5 := hide (fun (Y : World) (b : Below w2.heap.size w2 Y) => show Y.cell? ⟨w1.heap.size, 5, none⟩ = some (.int .i64 x.line) from by rw [cell_of_row _ _ _ _ _ _ ((b.block _ (lt_of_heap e2)).trans e2)]; rfl)
      have D2 := hide (show Below w.heap.size w w2.drew from below_drewN b2 1)
      have C := hide (CF.out w2.drew x.line (some ⟨pb, po, none⟩) i c (xs.take i) ((HR.out _ D2.out).front (by omega)) (by omega))
      obtain ⟨line, hl⟩ : ∃ line, line = x.line := ⟨_, rfl⟩
      rw [← hl] at z5 K5 C
      have HLN := hide hl
      have HW2 := hide hw2
      have X := hide hx
      obtain ⟨r, hr⟩ : ∃ r, r = (xs.take i).any (fun y => decide (y.line ≠ -1) && decide (y.line = line)) := ⟨_, rfl⟩
      rw [← hr] at C
      have ER := hide hr.symm
      have E2 := hide (show Below w2.heap.size w2 w2.drew from below_drewN (Below.refl _ _) 1)
      clear hcc hx hr hl hw2 b2 e2
      cases r with
      | true =>
        have NO := hide (show R = false from by
          cases R with
          | false => rfl
          | true =>
            obtain ⟨y, hy, hf⟩ := List.any_eq_true.1 ER.out
            obtain ⟨k, hk⟩ := List.getElem?_of_mem hy
            have hki : k < i := by
              have := (List.getElem?_eq_some_iff.1 hk).1
              rw [List.length_take] at this
              omega
            rw [List.getElem?_take_of_lt hki] at hk
            rw [HLN.out, HRR.out.1 rfl k i y x hki hk X.out] at hf
            cases hf)
        go_upto_region 4 with fail
        rw [← HW2.out]
        go_region_held3 (fun W => W.cell? ⟨w1.heap.size, 5, none⟩ = some (.int .i64 line)) (first | exact z5 | exact K5.out _ D3.out) (first | (go_at_call 56; refine C.out.mono ?_; rintro e w3 ⟨rfl, b3⟩; have D3 := hide (E2.out.trans (b3.mono E2.out.size)); have B3 := hide (D2.out.trans (b3.mono D2.out.size)); clear b3))
        all_goals
          go_wp2_with fail
          go_ret
          exact ⟨by rw [NO.out]; rfl, B3.out⟩
      | false =>
        go_upto_region 4 with fail
        rw [← HW2.out]
        go_region_held3 (fun W => W.cell? ⟨w1.heap.size, 5, none⟩ = some (.int .i64 line)) (first | exact z5 | exact K5.out _ D3.out) (first | (go_at_call 56; refine C.out.mono ?_; rintro e w3 ⟨rfl, b3⟩; have D3 := hide (E2.out.trans (b3.mono E2.out.size)); have B3 := hide (D2.out.trans (b3.mono D2.out.size)); clear b3))
        all_goals
          go_wp2_with fail
          go_roundw
          case rel =>
            refine ⟨i + 1, by omega, by go_num, B3.out, fun k j u v hk hj hu hv => ?_⟩
            by_cases hji : j < i
            · exact A1.out k j u v hk hji hu hv
            · obtain rfl : j = i := by omega
              rw [X.out] at hv; injection hv with hv; subst hv
              cases e : (decide (u.line ≠ -1) && decide (u.line = x.line))
              · rfl
              · have h := ER.out
                rw [any_at (x := u) (i := k) (by rw [List.getElem?_take_of_lt hk]; exact hu) (by rw [HLN.out]; exact e)] at h
                cases h
          case measure => simp [intOf]; omega
    · obtain rfl : i = n := by omega
      have YES := hide (show R = true from HRR.out.2 fun k j x y hk hx hy => A1.out k j x y hk (by have := (List.getElem?_eq_some_iff.1 hy).1; have := HL.out; omega) hx hy)
      clear hlt hi
      go_wp2_with fail
      go_ret
      exact ⟨by rw [YES.out]; rfl, B1.out⟩
end Go.Proofs.YtcmgkjjkhfcedaaGreat
