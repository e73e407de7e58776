/-
  The walk of LineGaps, over the contracts of the program's line.
-/
import Derived.Test.YtmelbhilafjpcaaLnBoth
import Derived.Test.YtmelbhilafjpcaaBools
namespace Go.Proofs.Ytmelbhilafjpcaa
open Go.ChangeShapes Go.WideShapes Go.ChangeAt Go.RowKit
set_option linter.unusedVariables false
set_option linter.unusedSimpArgs false
theorem stepA_true (s : Ls) (t : Int) : stepA s t true = arrS (tckS s t) t := rfl
theorem stepA_false (s : Ls) (t : Int) : stepA s t false = tckS s t := rfl
theorem cameA_true (s : Ls) (t : Int) : cameA s t true = (arrB (tckS s t) t || tckB s t) := rfl
theorem cameA_false (s : Ls) (t : Int) : cameA s t false = tckB s t := rfl
theorem mod_small {t n : Nat} (hn : 0 < n) (h : n ≤ 4) : Int.tmod (t : Int) (n : Int) = ((t % n : Nat) : Int) := by
  rw [Int.tmod_eq_emod_of_nonneg (by omega)]; omega
section
variable {PL : Rel Ls}
set_option maxRecDepth 10000 in
set_option maxHeartbeats 8000000 in
theorem walk_lineGapsC (C : PLine PL) (w : World) (xg : Int) (a : Option Addr) (n c : Nat) (zs : List Bool) (hin : Came 1 boVals BoWf w a n c zs) (xs : Int) :
    Calls Try.prog 4 #[.int .i64 xg, .slice a n c, .int .i64 xs] w fun e w' => e = .returned (.bool true) ∧ Below w.heap.size w w' := by
  have hn : n ≤ maxLen := Nat.le_trans hin.2.1 hin.2.2.1
  have HI := hide hin.bools
  have h63 : (n : Int) ≤ 9223372036854775807 := by unfold maxLen at hn; omega
  clear hin
  by_cases hb : 300 < n
  · have hb' : (300 : Int) < (n : Int) := by omega
    go_enter Try.func4, Try.ntmps4
    go_wp2_with (go_at_call 8; with_reducible refine (lnawake_any C _).mono ?_; rintro e w' ⟨rfl, hb⟩)
    go_ret
    exact ⟨rfl, hb⟩
  have hb' : ¬ (300 : Int) < (n : Int) := by omega
  go_enter Try.func4, Try.ntmps4
  go_upto_region 4 with (first
    | (go_at_call 21; with_reducible refine (low_i _ 50 _ (by omega) (by omega)).mono ?_; rintro e w' ⟨⟨r0, ⟨r1, r2⟩, rfl⟩, rfl⟩)
    | (go_at_call 21; with_reducible refine (low_i _ 4 _ (by omega) (by omega)).mono ?_; rintro e w' ⟨⟨r3, ⟨r4, r5⟩, rfl⟩, rfl⟩))
  obtain ⟨g, hG⟩ : ∃ g : Int, g = 1 + r0 := ⟨_, rfl⟩
  obtain ⟨q, hQ⟩ : ∃ q : Int, q = 1 + r3 := ⟨_, rfl⟩
  rw [← hG, ← hQ]
  have g1 : 1 ≤ g := by omega
  have g2 : g ≤ 50 := by omega
  have q1 : 1 ≤ q := by omega
  have q2 : q ≤ 4 := by omega
  clear hG hQ r1 r2 r4 r5
  go_wp2_with fail
  go_at_call 9
  refine (C.new w (g := g) g1 (by omega)).mono ?_
  rintro e w1 ⟨S, U, rfl, p1, b1, l1⟩
  have P1 := hide (OneO.first p1 b1 l1)
  clear p1 b1 l1
  go_wp2_with fail
  go_loopw [9, 10, 11] (fun v9 v10 v11 wr => ∃ (k : Nat) (last : Int) (any : Bool) (s : Ls) (U : Nat → Prop), k ≤ n ∧ v9 = .int .i64 last ∧ v10 = .bool any ∧ v11 = .int .i64 (k : Int) ∧ Hid (OneO PL w wr U [] S s ∧ GapI g k s last any ∧ 0 ≤ last ∧ last ≤ k)) (fun _ _ i _ => n - (intOf i).toNat)
  case atStart => exact ⟨0, 0, false, _, _, Nat.zero_le _, rfl, rfl, rfl, P1.out, ⟨rfl, (fun h => by cases h), fun _ => rfl⟩, by omega, by omega⟩
  case round =>
    clear P1 U
    obtain ⟨k, last, any, s, U, hk, rfl, rfl, rfl, hT⟩ := hrel
    by_cases hlt : k < n
    · obtain ⟨ab, off, rfl, hcell⟩ := HI.out.2 (by omega)
      obtain ⟨bit, hbit⟩ : ∃ b, b = zs.getD k false := ⟨_, rfl⟩
      have HC := hide (show ∀ W, Below w.heap.size w W → W.cell? ⟨ab, off + k, none⟩ = some (.bool bit) from fun W bw => by rw [hbit]; exact (bw.cell (lt_of_cell? (hcell k hlt))).trans (hcell k hlt))
      have k0 : (0 : Int) ≤ (k : Int) := by omega
      have k1 : (k : Int) < (n : Int) := by omega
      have k2 : (k : Int) ≤ 300 := by omega
      have GI := hide hT.out.2.1
      have L0 := hT.out.2.2.1
      have L1 := hT.out.2.2.2
      have P1 := hide hT.out.1
      have WK := hide (wf_i (x := (k : Int)) (by omega) (by omega))
      clear hcell hbit hT
      go_wp2_with fail
      go_at_call 14
      refine (C.tick P1.out.ps WK.out).mono ?_
      intro en w2 hs
      obtain ⟨rfl, U2, q2, _⟩ := P1.out.side hs
      clear hs
      have P2 := hide q2
      clear q2 P1
      have c1 := HC.out w2 P2.out.bel
      generalize hcm : tckB s (k : Int) = cm
      have HCM := hide hcm
      clear hcm
      go_upto_if 48 with fail
      go_cut [12] (fun v wx => v = .bool (cameA s k bit) ∧ ∃ U, Hid (OneO PL w wx U [] S (stepA s k bit)))
      case first =>
        cases bit with
        | false =>
          go_wp2_with fail
          go_meet
          case rel => exact ⟨by rw [cameA_false, HCM.out], U2, P2.out⟩
        | true =>
          have CA := hide (C.arrive P2.out.ps WK.out)
          generalize hb1 : arrB (tckS s (k : Int)) (k : Int) = b1 at CA
          have HB1 := hide hb1
          clear hb1
          have FIN := hide (fun (w3 : World) (U3 : Nat → Prop) (h : OneO PL w w3 U3 [] S (arrS (tckS s k) k)) => (show ∃ U, Hid (OneO PL w w3 U [] S (stepA s k true)) from ⟨U3, h⟩))
          cases b1 with
          | true =>
            go_wp2_with (go_at_call 12; refine CA.out.mono ?_; intro en w3 hs; obtain ⟨rfl, U3, q3, _⟩ := P2.out.side hs; clear hs; have P3 := hide q3; clear q3)
            go_meet
            case rel => exact ⟨by rw [cameA_true, HB1.out]; rfl, FIN.out _ _ P3.out⟩
          | false =>
            go_wp2_with (go_at_call 12; refine CA.out.mono ?_; intro en w3 hs; obtain ⟨rfl, U3, q3, _⟩ := P2.out.side hs; clear hs; have P3 := hide q3; clear q3)
            go_meet
            case rel => exact ⟨by rw [cameA_true, HB1.out, HCM.out]; rfl, FIN.out _ _ P3.out⟩
      case rest =>
        clear P2 c1
        obtain ⟨rfl, U3, P3⟩ := hcut
        have GN := hide (GI.out.step bit k0 (by omega) (by omega) (by omega))
        have GF := hide (fun (hc : cameA s k bit = true) (ha : any = true) => GI.out.far hc ha)
        have KP := hide (fun (h1 : (stepA s k bit).kept = true) (h2 : cameA s k bit = false) (h3 : (stepA s k bit).next ≤ (k : Int)) => kept_pend h1 h2 h3)
        clear HCM GI
        generalize stepA s k bit = s3 at *
        generalize cameA s k bit = cm2 at *
        go_upto_if 55 with fail
        go_cut [9, 10] (fun v9 v10 wx => v9 = .int .i64 (if cm2 = true then (k : Int) else last) ∧ v10 = .bool (cm2 || any) ∧ wx = wc)
        case first =>
          cases cm2 with
          | false =>
            go_wp2_with fail
            go_meet
            case rel => exact ⟨rfl, rfl, rfl⟩
          | true =>
            cases any with
            | false =>
              go_wp2_with fail
              go_meet
              case rel => exact ⟨rfl, rfl, rfl⟩
            | true =>
              have f1 := GF.out rfl rfl
              have f2 : decide ((k : Int) - last < g) = false := by simpa using f1
              go_wp2_with fail
              go_meet
              case rel => exact ⟨rfl, rfl, rfl⟩
        case rest =>
          obtain ⟨rfl, rfl, rfl⟩ := hcut
          have LL := hide (show 0 ≤ (if cm2 = true then (k : Int) else last) ∧ (if cm2 = true then (k : Int) else last) ≤ ((k + 1 : Nat) : Int) from by split <;> omega)
          generalize hla : (if cm2 = true then (k : Int) else last) = la at *
          generalize han : (cm2 || any) = an at *
          clear hla han GF L0 L1
          go_upto_region 18 with fail
          go_cut [76] (fun v wx => v = .bool (s3.kept && !cm2 && decide (s3.next ≤ (k : Int))) ∧ ∃ U, Hid (OneO PL w wx U [] S s3))
          case first =>
            have CM := hide (C.masked P3.out.ps)
            generalize hkt : s3.kept = kt at CM
            have HKT := hide hkt
            clear hkt
            cases kt with
            | false =>
              go_wp2_with (go_at_call 19; refine CM.out.mono ?_; rintro e w4 ⟨rfl, b4⟩; have P4 := hide (P3.out.below C.ok b4).1; clear b4)
              go_meet
              case rel => exact ⟨by rw [HKT.out]; rfl, _, P4.out⟩
            | true =>
              cases cm2 with
              | true =>
                go_wp2_with (go_at_call 19; refine CM.out.mono ?_; rintro e w4 ⟨rfl, b4⟩; have P4 := hide (P3.out.below C.ok b4).1; clear b4)
                go_meet
                case rel => exact ⟨by rw [HKT.out]; rfl, _, P4.out⟩
              | false =>
                have CN := hide (fun (W : World) (h : OneO PL w W U3 [] S s3) => C.next h.ps)
                by_cases hnx : s3.next ≤ (k : Int)
                · have HNX := hide hnx
                  go_wp2_with (first
                    | (go_at_call 19; refine CM.out.mono ?_; rintro e w4 ⟨rfl, b4⟩; have P4 := hide (P3.out.below C.ok b4).1; clear b4)
                    | (go_at_call 20; refine (CN.out _ P4.out).mono ?_; rintro e w5 ⟨rfl, b5⟩; have P5 := hide (P4.out.below C.ok b5).1; clear b5))
                  go_meet
                  case rel => exact ⟨by rw [HKT.out]; simp [HNX.out], _, P5.out⟩
                · have HNX := hide hnx
                  go_wp2_with (first
                    | (go_at_call 19; refine CM.out.mono ?_; rintro e w4 ⟨rfl, b4⟩; have P4 := hide (P3.out.below C.ok b4).1; clear b4)
                    | (go_at_call 20; refine (CN.out _ P4.out).mono ?_; rintro e w5 ⟨rfl, b5⟩; have P5 := hide (P4.out.below C.ok b5).1; clear b5))
                  go_meet
                  case rel => exact ⟨by rw [HKT.out]; simp [HNX.out], _, P5.out⟩
          case rest =>
            clear P3
            obtain ⟨rfl, U4, P4⟩ := hcut
            have q0 : ¬ q = 0 := by omega
            obtain ⟨r, hr⟩ : ∃ r : Int, Int.tmod (k : Int) q = r := ⟨_, rfl⟩
            have r0 : 0 ≤ r := by rw [← hr, Int.tmod_eq_emod_of_nonneg k0]; exact Int.emod_nonneg _ q0
            have r1 : r ≤ 1000 := by rw [← hr, Int.tmod_eq_emod_of_nonneg k0]; have := Int.emod_lt_of_pos (k : Int) (show 0 < q by omega); omega
            have KQ := hide (show (s3.kept && !cm2 && decide (s3.next ≤ (k : Int))) = true → s3.pend = true from fun h => by
              simp only [Bool.and_eq_true, Bool.not_eq_true', decide_eq_true_eq] at h
              exact KP.out h.1.1 h.1.2 h.2)
            generalize (s3.kept && !cm2 && decide (s3.next ≤ (k : Int))) = bb at *
            cases bb with
            | true =>
              have CP := hide (C.pending P4.out.ps)
              rw [KQ.out rfl] at CP
              go_upto_region 22 with (go_at_call 18; refine CP.out.mono ?_; rintro e w5 ⟨rfl, b5⟩; have P5 := hide (P4.out.below C.ok b5).1; clear b5)
              by_cases hr0 : r = 0
              · subst hr0
                go_wp2_with (go_at_call 16; refine (C.take P5.out.ps).mono ?_; intro en w9 hs; obtain ⟨rfl, U9, q9, _⟩ := P5.out.side hs; clear hs; have P9 := hide q9; clear q9)
                go_roundw
                case rel => exact ⟨k + 1, _, _, _, U9, by omega, rfl, rfl, by go_num, P9.out, GN.out.take, LL.out⟩
                case measure => simp [intOf]; omega
              · have hr1 : (r == 0) = false := by simpa using hr0
                go_wp2_with fail
                go_roundw
                case rel => exact ⟨k + 1, _, _, _, _, by omega, rfl, rfl, by go_num, P5.out, GN.out, LL.out⟩
                case measure => simp [intOf]; omega
            | false =>
              by_cases hr0 : r = 0
              · subst hr0
                go_wp2_with (go_at_call 16; refine (C.take P4.out.ps).mono ?_; intro en w9 hs; obtain ⟨rfl, U9, q9, _⟩ := P4.out.side hs; clear hs; have P9 := hide q9; clear q9)
                go_roundw
                case rel => exact ⟨k + 1, _, _, _, U9, by omega, rfl, rfl, by go_num, P9.out, GN.out.take, LL.out⟩
                case measure => simp [intOf]; omega
              · have hr1 : (r == 0) = false := by simpa using hr0
                go_wp2_with fail
                go_roundw
                case rel => exact ⟨k + 1, _, _, _, _, by omega, rfl, rfl, by go_num, P4.out, GN.out, LL.out⟩
                case measure => simp [intOf]; omega
    · obtain rfl : k = n := by omega
      have P1 := hide hT.out.1
      clear hT
      go_wp2_with (go_at_call 8; with_reducible refine (lnawake_any C _).mono ?_; rintro e w9 ⟨rfl, b9⟩; have B9 := hide (P1.out.bel.trans (b9.mono P1.out.bel.size)); clear b9)
      go_ret
      exact ⟨rfl, B9.out⟩
end
end Go.Proofs.Ytmelbhilafjpcaa
