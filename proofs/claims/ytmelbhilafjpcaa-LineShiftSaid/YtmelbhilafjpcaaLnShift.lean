/-
  The walk of LineShift, over the contracts of the program's line.
-/
import Derived.Test.YtmelbhilafjpcaaLnBoth
import Derived.Test.YtmelbhilafjpcaaBools
namespace Go.Proofs.Ytmelbhilafjpcaa
open Go.ChangeShapes Go.WideShapes Go.ChangeAt Go.RowKit
set_option linter.unusedVariables false
set_option linter.unusedSimpArgs false
theorem shift_new (k g : Int) : ShiftI k g (newL g) (newL g) := ⟨rfl, rfl, rfl, rfl, (fun e => by cases e), .inl ⟨rfl, rfl⟩⟩
section
variable {PL : Rel Ls}
set_option maxRecDepth 10000 in
set_option maxHeartbeats 8000000 in
theorem walk_lineShiftC (C : PLine PL) (w : World) (xg : Int) (a : Option Addr) (n c : Nat) (zs : List Bool) (hin : Came 1 boVals BoWf w a n c zs) (a2 : Option Addr) (n2 c2 : Nat) (zs2 : List Bool) (hin2 : Came 1 boVals BoWf w a2 n2 c2 zs2) (xb : Int) :
    Calls Try.prog 7 #[.int .i64 xg, .slice a n c, .slice a2 n2 c2, .int .i64 xb] w fun e w' => e = .returned (.bool true) ∧ Below w.heap.size w w' := by
  have hn : n ≤ maxLen := Nat.le_trans hin.2.1 hin.2.2.1
  have hn2 : n2 ≤ maxLen := Nat.le_trans hin2.2.1 hin2.2.2.1
  have HI := hide hin.bools
  have HI2 := hide hin2.bools
  have h63 : (n : Int) ≤ 9223372036854775807 := by unfold maxLen at hn; omega
  have h64 : (n2 : Int) ≤ 9223372036854775807 := by unfold maxLen at hn2; omega
  clear hin hin2
  by_cases hb : 100 < n
  · have hb' : (100 : Int) < (n : Int) := by omega
    go_enter Try.func7, Try.ntmps7
    go_wp2_with (go_at_call 8; with_reducible refine (lnawake_any C _).mono ?_; rintro e w' ⟨rfl, hb⟩)
    go_ret
    exact ⟨rfl, hb⟩
  have hb' : ¬ (100 : Int) < (n : Int) := by omega
  go_enter Try.func7, Try.ntmps7
  go_upto_region 4 with (first
    | (go_at_call 21; with_reducible refine (low_i _ 40 _ (by omega) (by omega)).mono ?_; rintro e w' ⟨⟨r0, ⟨r1, r2⟩, rfl⟩, rfl⟩)
    | (go_at_call 21; with_reducible refine (low_i _ 1000 _ (by omega) (by omega)).mono ?_; rintro e w' ⟨⟨q, ⟨q1, q2⟩, rfl⟩, rfl⟩))
  obtain ⟨g, hG⟩ : ∃ g : Int, g = 1 + r0 := ⟨_, rfl⟩
  rw [← hG]
  have g1 : 1 ≤ g := by omega
  have g2 : g ≤ 40 := by omega
  clear hG r1 r2
  go_wp2_with fail
  go_at_call 9
  refine (C.new w (g := g) g1 (by omega)).mono ?_
  rintro e w1 ⟨S, U, rfl, p1, b1, l1⟩
  have P1 := hide (OneO.first p1 b1 l1)
  clear p1 b1 l1
  go_wp2_with fail
  go_at_call 9
  refine (C.new w1 (g := g) g1 (by omega)).mono ?_
  rintro e w2 ⟨R, D, rfl, p2, b2, l2⟩
  have T0 := hide (P1.out.two C.ok C.ok p2 b2 l2)
  clear p2 b2 l2 P1
  go_wp2_with fail
  go_loopw [15] (fun v wr => ∃ (k : Nat) (s r : Ls) (U D : Nat → Prop), k ≤ n ∧ v = .int .i64 (k : Int) ∧ Hid (TwoO PL PL w wr U D [] S R s r ∧ ShiftI q g s r)) (fun i _ => n - (intOf i).toNat)
  case atStart => exact ⟨0, _, _, _, _, Nat.zero_le _, rfl, T0.out, shift_new q g⟩
  case round =>
    clear T0 U D
    obtain ⟨k, s, r, U, D, hk, rfl, hT⟩ := hrel
    by_cases hlt : k < n
    · obtain ⟨ab, off, rfl, hcell⟩ := HI.out.2 (by omega)
      obtain ⟨bit, hbit⟩ : ∃ b, b = zs.getD k false := ⟨_, rfl⟩
      have HC := hide (show ∀ W, Below w.heap.size w W → W.cell? ⟨ab, off + k, none⟩ = some (.bool bit) from fun W bw => by rw [hbit]; exact (bw.cell (lt_of_cell? (hcell k hlt))).trans (hcell k hlt))
      have k0 : (0 : Int) ≤ (k : Int) := by omega
      have k1 : (k : Int) < (n : Int) := by omega
      have k2 : (k : Int) ≤ 100 := by omega
      have T1 := hide hT.out.1
      have I1 := hide hT.out.2
      have WK := hide (wf_i (x := (k : Int)) (by omega) (by omega))
      have WQ := hide (wf_i (x := (k : Int) + q) (by omega) (by omega))
      have b1 := I1.out.tckB k0 q1
      have I2 := hide (I1.out.tick k0 (by omega) q1 (by omega) (by omega : (0:Int) ≤ g) (by omega))
      obtain ⟨tb, htb⟩ : ∃ b, b = tckB s (k : Int) := ⟨_, rfl⟩
      have CA := hide (show ∀ (W : World) (X0 : Nat → Prop), PL W X0 S s → Calls Try.prog 14 #[.pointer (some ⟨S, 0, none⟩), .int .i64 (k : Int)] W (SideO (fun w' X' => PL w' X' S (tckS s (k : Int))) X0 W (.bool tb)) from fun W U h => by have := C.tick h WK.out; rw [← htb] at this; exact this)
      have CB := hide (show ∀ (W : World) (X0 : Nat → Prop), PL W X0 R r → Calls Try.prog 14 #[.pointer (some ⟨R, 0, none⟩), .int .i64 ((k : Int) + q)] W (SideO (fun w' X' => PL w' X' R (tckS r ((k : Int) + q))) X0 W (.bool tb)) from fun W U h => by have := C.tick h WQ.out; rw [← b1, ← htb] at this; exact this)
      have I3 := hide (I2.out.arrive k0 (by omega) q1 (by omega) (by omega : (0:Int) ≤ g) (by omega))
      have b3 := I2.out.arr k0 q1
      clear hcell hbit hT htb b1
      generalize hs2 : tckS s (k : Int) = s2 at *
      generalize hr2 : tckS r ((k : Int) + q) = r2 at *
      obtain ⟨ar, har⟩ : ∃ b, b = arrB s2 (k : Int) := ⟨_, rfl⟩
      have CA2 := hide (show ∀ (W : World) (X0 : Nat → Prop), PL W X0 S s2 → Calls Try.prog 12 #[.pointer (some ⟨S, 0, none⟩), .int .i64 (k : Int)] W (SideO (fun w' X' => PL w' X' S (arrS s2 (k : Int))) X0 W (.bool ar)) from fun W U h => by have := C.arrive h WK.out; rw [← har] at this; exact this)
      have CB2 := hide (show ∀ (W : World) (X0 : Nat → Prop), PL W X0 R r2 → Calls Try.prog 12 #[.pointer (some ⟨R, 0, none⟩), .int .i64 ((k : Int) + q)] W (SideO (fun w' X' => PL w' X' R (arrS r2 ((k : Int) + q))) X0 W (.bool ar)) from fun W U h => by have := C.arrive h WQ.out; rw [← b3, ← har] at this; exact this)
      clear har b3 hs2 hr2
      have g0 : (tb != tb) = false := by simp
      have g3 : (ar != ar) = false := by simp
      go_upto_region 11 with fail
      go_cut [91] (fun v wx => v = .bool false ∧ ∃ (s' r' : Ls) (U D : Nat → Prop), Hid (TwoO PL PL w wx U D [] S R s' r' ∧ ShiftI q g s' r'))
      case first =>
        go_wp2_with fail
        go_at_call 14
        refine (CA.out _ _ T1.out.ps).mono ?_
        intro en w3 hs
        obtain ⟨rfl, U3, t3, _⟩ := T1.out.left C.ok C.ok hs
        clear hs
        have T3 := hide t3
        clear t3 T1
        go_wp2_with fail
        go_at_call 14
        refine (CB.out _ _ T3.out.ds).mono ?_
        intro en w4 hs
        obtain ⟨rfl, D4, t4, _⟩ := T3.out.right C.ok C.ok hs
        clear hs
        have T4 := hide t4
        clear t4 T3
        have y1 := HC.out w4 T4.out.bel
        cases bit with
        | false =>
          have CM := hide (C.masked T4.out.ps)
          have CN := hide (fun (W : World) (h : PL W D4 R r2) => C.masked h)
          rw [I2.out.kept] at CM
          generalize hkk : r2.kept = kk at *
          have g4 : (kk != kk) = false := by simp
          clear hkk
          go_wp2_with fail
          go_at_call 19
          refine CM.out.mono ?_
          rintro e w5 ⟨rfl, b5⟩
          have T5 := hide (T4.out.below C.ok C.ok b5).1
          clear b5 T4 CM
          go_wp2_with fail
          go_at_call 19
          refine (CN.out _ T5.out.ds).mono ?_
          rintro e w6 ⟨rfl, b6⟩
          have T6 := hide (T5.out.below C.ok C.ok b6).1
          clear b6 T5
          go_wp2_with fail
          go_meet
          case rel => exact ⟨rfl, _, _, _, _, T6.out, I2.out⟩
        | true =>
          go_wp2_with fail
          go_at_call 12
          refine (CA2.out _ _ T4.out.ps).mono ?_
          intro en w5 hs
          obtain ⟨rfl, U5, t5, _⟩ := T4.out.left C.ok C.ok hs
          clear hs
          have T5 := hide t5
          clear t5 T4
          go_wp2_with fail
          go_at_call 12
          refine (CB2.out _ _ T5.out.ds).mono ?_
          intro en w6 hs
          obtain ⟨rfl, D6, t6, _⟩ := T5.out.right C.ok C.ok hs
          clear hs
          have T6 := hide t6
          clear t6 T5
          generalize hs3 : arrS s2 (k : Int) = s3 at *
          generalize hr3 : arrS r2 ((k : Int) + q) = r3 at *
          clear hs3 hr3
          have CM := hide (C.masked T6.out.ps)
          have CN := hide (fun (W : World) (h : PL W D6 R r3) => C.masked h)
          rw [I3.out.kept] at CM
          generalize hkk : r3.kept = kk at *
          have g4 : (kk != kk) = false := by simp
          clear hkk
          go_wp2_with fail
          go_at_call 19
          refine CM.out.mono ?_
          rintro e w7 ⟨rfl, b7⟩
          have T7 := hide (T6.out.below C.ok C.ok b7).1
          clear b7 T6 CM
          go_wp2_with fail
          go_at_call 19
          refine (CN.out _ T7.out.ds).mono ?_
          rintro e w8 ⟨rfl, b8⟩
          have T8 := hide (T7.out.below C.ok C.ok b8).1
          clear b8 T7
          go_wp2_with fail
          go_meet
          case rel => exact ⟨rfl, _, _, _, _, T8.out, I3.out⟩
      case rest =>
        clear T1 CA CB CA2 CB2 I3 I2 I1
        obtain ⟨rfl, s4, r4, U4, D4, hT⟩ := hcut
        have T4 := hide hT.out.1
        have I4 := hide hT.out.2
        clear hT
        have CP := hide (C.pending T4.out.ps)
        have CQ := hide (fun (W : World) (h : PL W D4 R r4) => C.pending h)
        obtain ⟨pe, hpe⟩ : ∃ b, b = r4.pend := ⟨_, rfl⟩
        obtain ⟨x1, hx1⟩ : ∃ b, b = atL s4 := ⟨_, rfl⟩
        obtain ⟨x2, hx2⟩ : ∃ b, b = atL r4 := ⟨_, rfl⟩
        have HP := hide (show pe = true → 0 ≤ x1 ∧ x1 ≤ 100000 ∧ x1 + q = x2 from fun e => by
          have pr : r4.pend = true := by rw [← hpe]; exact e
          have ps : s4.pend = true := by rw [I4.out.pend]; exact pr
          obtain ⟨e1, e2, e3⟩ := I4.out.at_ ps
          rw [hx1, hx2]
          unfold atL
          rw [if_pos ps, if_pos pr, e1]
          exact ⟨e2, by omega, rfl⟩)
        rw [I4.out.pend, ← hpe, ← hx1] at CP
        rw [← hpe, ← hx2] at CQ
        clear hpe hx1 hx2
        go_wp2_with fail
        go_at_call 18
        refine CP.out.mono ?_
        rintro e w5 ⟨rfl, b5⟩
        have T5 := hide (T4.out.below C.ok C.ok b5).1
        clear b5 T4 CP
        go_wp2_with fail
        go_at_call 18
        refine (CQ.out _ T5.out.ds).mono ?_
        rintro e w6 ⟨rfl, b6⟩
        have T6 := hide (T5.out.below C.ok C.ok b6).1
        clear b6 T5 CQ
        have g5 : (pe != pe) = false := by simp
        go_upto_region 15 with fail
        go_cut [114] (fun v wx => v = .bool false ∧ wx = w6)
        case first =>
          cases pe with
          | true =>
            obtain ⟨x0, xb, xe⟩ := HP.out rfl
            have g6 : (x2 != x2) = false := by simp
            go_wp2_with fail
            go_meet
            case rel => exact ⟨rfl, rfl⟩
          | false =>
            go_wp2_with fail
            go_meet
            case rel => exact ⟨rfl, rfl⟩
        case rest =>
          obtain ⟨rfl, rfl⟩ := hcut
          clear HP g5
          by_cases h2 : k < n2
          · have h2' : (k : Int) < (n2 : Int) := by omega
            obtain ⟨ab2, off2, rfl, hcell2⟩ := HI2.out.2 (by omega)
            obtain ⟨bit2, hbit2⟩ : ∃ b, b = zs2.getD k false := ⟨_, rfl⟩
            have y2 : wc.cell? ⟨ab2, off2 + k, none⟩ = some (.bool bit2) := by rw [hbit2]; exact (T6.out.bel.cell (lt_of_cell? (hcell2 k h2))).trans (hcell2 k h2)
            clear hcell2 hbit2
            cases bit2 with
            | false =>
              go_wp2_with fail
              go_roundw
              case rel => exact ⟨k + 1, _, _, _, _, by omega, by go_num, T6.out, I4.out⟩
              case measure => simp [intOf]; omega
            | true =>
              go_wp2_with fail
              go_at_call 16
              refine (C.take T6.out.ps).mono ?_
              intro en w7 hs
              obtain ⟨rfl, U7, t7, _⟩ := T6.out.left C.ok C.ok hs
              clear hs
              have T7 := hide t7
              clear t7 T6
              go_wp2_with fail
              go_at_call 16
              refine (C.take T7.out.ds).mono ?_
              intro en w8 hs
              obtain ⟨rfl, D8, t8, _⟩ := T7.out.right C.ok C.ok hs
              clear hs
              have T8 := hide t8
              clear t8 T7
              go_wp2_with fail
              go_roundw
              case rel => exact ⟨k + 1, _, _, _, _, by omega, by go_num, T8.out, I4.out.take⟩
              case measure => simp [intOf]; omega
          · have h2' : ¬ (k : Int) < (n2 : Int) := by omega
            go_wp2_with fail
            go_roundw
            case rel => exact ⟨k + 1, _, _, _, _, by omega, by go_num, T6.out, I4.out⟩
            case measure => simp [intOf]; omega
    · obtain rfl : k = n := by omega
      have T1 := hide hT.out.1
      clear hT
      go_wp2_with (go_at_call 8; with_reducible refine (lnawake_any C _).mono ?_; rintro e w9 ⟨rfl, b9⟩; have B9 := hide (T1.out.bel.trans (b9.mono T1.out.bel.size)); clear b9)
      go_ret
      exact ⟨rfl, B9.out⟩
end
end Go.Proofs.Ytmelbhilafjpcaa
