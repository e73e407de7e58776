/-
  The law LocksOwn.
-/
import Derived.Test.YteeofpjfgjhemaaLkTicks
namespace Go.Proofs.Yteeofpjfgjhemaa
open Go.ChangeShapes Go.WideShapes Go.ChangeAt Go.RowKit
set_option linter.unusedVariables false
set_option linter.unusedSimpArgs false
def threeO : List Mu := [⟨1, 5⟩, ⟨2, 9⟩, ⟨3, 7⟩]
theorem builtO1 : Try.prog.built 49 [(0, .int .i64 1), (1, .int .i64 5)] = some #[.int .i64 1, .int .i64 5] := by kernel_rfl
theorem builtO2 : Try.prog.built 49 [(0, .int .i64 2), (1, .int .i64 9)] = some #[.int .i64 2, .int .i64 9] := by kernel_rfl
theorem builtO3 : Try.prog.built 49 [(0, .int .i64 3), (1, .int .i64 7)] = some #[.int .i64 3, .int .i64 7] := by kernel_rfl
attribute [local go_sem] builtO1 builtO2 builtO3
theorem hvs_of {s s' : Lks} {t : Int} (h : holds s' t = holds s t) : hvsL s' t = hvsL s t := by unfold hvsL; rw [h]
theorem holds_len {s : Lks} (g : GoodK s) (t : Int) : (holds s t).length ≤ s.ms.length := by
  have h1 : (holds s t).length ≤ s.h.length := List.length_filter_le _ _
  have h2 := cntM_all g
  have h3 : ∀ k, cntM s k ≤ k := by
    intro k
    induction k with
    | zero => rw [cntM_zero g]; exact Nat.le_refl _
    | succ k ih => rw [cntM_succ g]; split <;> omega
  have := h3 s.ms.length
  omega
theorem lock_ms (s : Lks) (t m : Int) : (lockS s t m).ms = s.ms := by unfold lockS; split; split <;> rfl; rfl
theorem unlock_ms (s : Lks) (t m : Int) : (unlockS s t m).ms = s.ms := by unfold unlockS; split <;> rfl
section
variable {PT : World → (Nat → Prop) → Nat → List Mu → Prop} {PK : World → (Nat → Prop) → (Nat → Prop) → Nat → Nat → Lks → Prop}
set_option maxRecDepth 10000 in
set_option maxHeartbeats 8000000 in
theorem walk_locksOwnC (CT : PTable PT) (C : PLocks PT PK) (w : World) (a : Option Addr) (n c : Nat) (xs : List Int) (hin : CameIn .i64 w a n c xs) (b : Option Addr) (p d : Nat) (ys : List Int) (hin2 : CameIn .i64 w b p d ys) : Calls Try.prog 7 #[.slice a n c, .slice b p d] w fun e w' => e = .returned (.bool true) ∧ Below w.heap.size w w' := by
  obtain ⟨hi, hnc, hcm, hnil, hwf⟩ := hin
  obtain ⟨hj, hpd, hdm, hnil2, hwf2⟩ := hin2
  have n63 : (n : Int) ≤ 9223372036854775807 := by unfold maxLen at hcm; omega
  have p63 : (p : Int) ≤ 9223372036854775807 := by unfold maxLen at hdm; omega
  by_cases h5 : (10 : Int) < (n : Int)
  · go_enter Try.func7, Try.ntmps7
    go_wp2_with (go_at_call 8; refine (lkawake_any CT C _).mono ?_; rintro e w2 ⟨rfl, b2⟩)
    go_ret
    exact ⟨rfl, b2⟩
  by_cases h6 : (60 : Int) < (p : Int)
  · go_enter Try.func7, Try.ntmps7
    go_wp2_with (go_at_call 8; refine (lkawake_any CT C _).mono ?_; rintro e w2 ⟨rfl, b2⟩)
    go_ret
    exact ⟨rfl, b2⟩
  have HI := hide hi
  have HJ := hide hj
  clear hi hnc hcm hnil hwf hj hpd hdm hnil2 hwf2
  have NW := hide (show Calls Try.prog 9 #[.slice (some ⟨w.heap.size, 0, none⟩) 3 3] (w.alloc (.cells #[.int .i64 1, .int .i64 5, .int .i64 2, .int .i64 9, .int .i64 3, .int .i64 7] 49)) fun e w' => ∃ T Q, e = .returned (.tuple #[.pointer (some ⟨T, 0, none⟩), .int .i64 0]) ∧ PT w' Q T threeO ∧ Below w.heap.size w w' ∧ ∀ i, Q i → w.heap.size ≤ i from
    rank_lit CT w threeO (by decide) (fun m hm => by simp [threeO] at hm; rcases hm with rfl | rfl | rfl <;> exact ⟨by decide, by decide⟩) (by decide))
  go_enter Try.func7, Try.ntmps7
  go_wp2_with (first
    | (go_at_call 9; refine NW.out.mono ?_; rintro e w1 ⟨T, Q, rfl, t1, b1, q1⟩; have T1 := hide t1; have B1 := hide b1; have Q1 := hide q1; clear t1 b1 q1)
    | (go_at_call 10; refine (lin_new C T1.out B1.out Q1.out).mono ?_; rintro e w2 ⟨S, U, rfl, h2⟩; have H2 := hide h2; clear h2)
    | (refine wpList_build rfl 49 _ rfl (by kernel_rfl) ?_))
  go_loopw [8] (fun iv wr => ∃ k : Nat, k ≤ n ∧ iv = .int .i64 k ∧ Hid (∃ U s, Lin PK w wr U Q T S s ∧ s.ms = threeO)) (fun iv _ => n - (intOf iv).toNat)
  case atStart => exact ⟨0, Nat.zero_le _, rfl, U, _, H2.out, rfl⟩
  case round =>
    obtain ⟨k, hk, rfl, hZ⟩ := hrel
    obtain ⟨V, s, z3, z4⟩ := hZ.out
    have Z3 := hide z3
    have Z4 := hide z4
    clear hZ z3 z4
    by_cases hlt : k < n
    · have k0 : (0 : Int) ≤ (k : Int) := by omega
      have k1 : (k : Int) < (n : Int) := by omega
      obtain ⟨gb, go, rfl, hc⟩ := HI.out.2 (by omega)
      have c0 := (Z3.out.bel.cell (p := ⟨gb, go + k, none⟩) (lt_of_cell? (hc k hlt))).trans (hc k hlt)
      clear hc
      go_wp2_with (first
        | (go_at_call 11; refine (low_int _ 3 _ (by omega) (by omega)).mono ?_; rintro e w' ⟨⟨r, hr, rfl⟩, rfl⟩; have HR := hide hr; clear hr)
        | (go_at_call 12; refine (Z3.out.lock C (t := 1) (m := (r : Int)) (by decide) (wf_small (by omega) (by have := HR.out; omega)) (by decide)).mono ?_; rintro e w5 ⟨U5, rfl, h5, _, _⟩; have H5 := hide h5; clear h5 c0)
        | (go_at_call 21; refine (H5.out.run C (t := 1) (n := 1) (by decide) (by decide)).mono ?_; rintro e w6 ⟨U6, rfl, h6, _, _⟩; have H6 := hide h6; clear h6))
      go_roundw
      case rel => exact ⟨k + 1, by omega, by go_num, U6, _, H6.out, by show (lockS s 1 (r : Int)).ms = threeO; rw [lock_ms]; exact Z4.out⟩
      case measure => simp [intOf]; omega
    · obtain rfl : k = n := by omega
      obtain ⟨q, hq⟩ : ∃ q, q = (holds s 1).length := ⟨_, rfl⟩
      have q6 : q ≤ 3 := by
        have := holds_len (C.good Z3.out.pk) 1
        rw [Z4.out] at this
        rw [hq]; exact this
      obtain ⟨hs, hhs⟩ : ∃ hs, hs = hvsL s 1 := ⟨_, rfl⟩
      have K6 := hide (by
        have := C.held Z3.out.pk (t := 1) (by decide)
        rw [← hq, ← hhs] at this
        exact this)
      have HQ := hide hq
      have HS := hide hhs
      clear hq hhs
      go_wp2_with (first
        | (go_at_call 15; refine K6.out.mono ?_; rintro e w7 ⟨v, rfl, o7, b7⟩; obtain ⟨va, vc, rfl⟩ := own_sliceI o7
           have H7 := hide (Z3.out.below C b7)
           have R7 := hide (show RowBy V Q w7 (.slice va q vc) from fun i hi => ⟨(o7.lt i hi).2, fun e => by have h1 := C.lt Z3.out.pk i (.inl e); have h2 := (o7.lt i hi).1; omega, fun e => by have h1 := C.lt Z3.out.pk i (.inr e); have h2 := (o7.lt i hi).1; omega⟩)
           have O7 := hide (own_base o7 (Nat.zero_le _))
           clear o7 b7 K6))
      go_loopw [10, 11] (fun iv u11 wr => ∃ i : Nat, i ≤ p ∧ iv = .int .i64 i ∧ Hid (∃ V s, Lin PK w wr V Q T S s ∧ (holds s 1).length = q ∧ hvsL s 1 = hs ∧ RowBy V Q wr (.slice va q vc) ∧ wr.ownsRow 0 44 2 (.slice va q vc) q (hs.flatMap hvVals))) (fun iv _ _ => p - (intOf iv).toNat)
      case atStart => exact ⟨0, Nat.zero_le _, rfl, V, s, H7.out, HQ.out.symm, HS.out.symm, R7.out, O7.out⟩
      case round =>
        obtain ⟨i, hi, rfl, hZ⟩ := hrel
        obtain ⟨V1, s1, y0, y1, y2, y3, y4⟩ := hZ.out
        have Y0 := hide y0
        have E1 := hide y1
        have E2 := hide y2
        have Y3 := hide y3
        have Y4 := hide y4
        clear hZ y0 y1 y2 y3 y4 Z3 Z4 H7 R7 O7 HQ HS
        by_cases hlt2 : i < p
        · have k0 : (0 : Int) ≤ (i : Int) := by omega
          have k1 : (i : Int) < (p : Int) := by omega
          obtain ⟨gb, go, rfl, hc⟩ := HJ.out.2 (by omega)
          have c0 := (Y0.out.bel.cell (p := ⟨gb, go + i, none⟩) (lt_of_cell? (hc i hlt2))).trans (hc i hlt2)
          clear hc
          go_upto_region 20 with (go_at_call 11; refine (low_int _ 12 _ (by omega) (by omega)).mono ?_; rintro e w' ⟨⟨r, hr, rfl⟩, rfl⟩)
          clear c0
          have r0 : (0 : Int) ≤ (r : Int) := by omega
          by_cases m3 : (r : Int) < 3
          · go_wp2_with (first
              | (go_at_call 12; refine (Y0.out.lock C (t := 2) (m := (r : Int)) (by decide) (wf_small (by omega) (by omega)) (by decide)).mono ?_; rintro e w8 ⟨V8, rfl, h8, t8, u8⟩; have H8 := hide h8; have R8 := hide (Y3.out.next t8 u8); have O8 := hide (Y3.out.own Y4.out t8); clear h8 t8 u8)
              | (go_at_call 15
                 have hh : holds (lockS s1 2 (r : Int)) 1 = holds s1 1 := holds_lock (by decide)
                 have K8 := C.held H8.out.pk (t := 1) (by decide)
                 rw [hvs_of hh, hh, E1.out, E2.out] at K8
                 refine K8.mono ?_
                 rintro e w9 ⟨v9, rfl, o9, b9⟩
                 obtain ⟨v9a, v9c, rfl⟩ := own_sliceI o9
                 have H9 := hide (H8.out.below C b9)
                 have O9 := hide o9
                 have P9 := hide (own_below O8.out b9)
                 have R9 := hide (show RowBy V8 Q w9 (.slice va q vc) from fun i hi => ⟨Nat.lt_of_lt_of_le (R8.out i hi).1 b9.size, (R8.out i hi).2⟩)
                 have F1 := hide (show (holds (lockS s1 2 (r : Int)) 1).length = q from by rw [hh]; exact E1.out)
                 have F2 := hide (show hvsL (lockS s1 2 (r : Int)) 1 = hs from by rw [hvs_of hh]; exact E2.out)
                 clear o9 b9 K8 hh)
              | (go_at_call 22
                 obtain ⟨ga, gc, e9, r9, _⟩ := own_reads hvVals_len (by omega) O9.out
                 injection e9 with e91 _ e92
                 subst e91 e92
                 obtain ⟨ga, gc, e9, r8, _⟩ := own_reads hvVals_len (by omega) P9.out
                 injection e9 with e91 _ e92
                 subst e91 e92
                 refine (same_helds _ _ q _ _ hs _ r9 r8 (by omega)).mono ?_
                 rintro e w10 ⟨rfl, b10⟩
                 have H10 := hide (H9.out.below C b10)
                 have P10 := hide (own_below P9.out b10)
                 have R10 := hide (show RowBy V8 Q w10 (.slice va q vc) from fun i hi => ⟨Nat.lt_of_lt_of_le (R9.out i hi).1 b10.size, (R9.out i hi).2⟩)
                 clear r9 r8 b10))
            go_roundw
            case rel => exact ⟨i + 1, by omega, by go_num, V8, _, H10.out, F1.out, F2.out, R10.out, P10.out⟩
            case measure => simp [intOf]; omega
          by_cases m6 : (r : Int) < 6
          · go_wp2_with (first
              | (go_at_call 13; refine (Y0.out.unlock C (t := 2) (m := (r : Int) - 3) (by decide) (wf_small (by omega) (by omega))).mono ?_; rintro e w8 ⟨v8, R0, V8, rfl, _, h8, t8, u8⟩; have H8 := hide h8; have R8 := hide (Y3.out.next t8 u8); have O8 := hide (Y3.out.own Y4.out t8); clear h8 t8 u8)
              | (go_at_call 15
                 have hh : holds (unlockS s1 2 ((r : Int) - 3)) 1 = holds s1 1 := holds_unlock (C.good Y0.out.pk) (by decide)
                 have K8 := C.held H8.out.pk (t := 1) (by decide)
                 rw [hvs_of hh, hh, E1.out, E2.out] at K8
                 refine K8.mono ?_
                 rintro e w9 ⟨v9, rfl, o9, b9⟩
                 obtain ⟨v9a, v9c, rfl⟩ := own_sliceI o9
                 have H9 := hide (H8.out.below C b9)
                 have O9 := hide o9
                 have P9 := hide (own_below O8.out b9)
                 have R9 := hide (show RowBy V8 Q w9 (.slice va q vc) from fun i hi => ⟨Nat.lt_of_lt_of_le (R8.out i hi).1 b9.size, (R8.out i hi).2⟩)
                 have F1 := hide (show (holds (unlockS s1 2 ((r : Int) - 3)) 1).length = q from by rw [hh]; exact E1.out)
                 have F2 := hide (show hvsL (unlockS s1 2 ((r : Int) - 3)) 1 = hs from by rw [hvs_of hh]; exact E2.out)
                 clear o9 b9 K8 hh)
              | (go_at_call 22
                 obtain ⟨ga, gc, e9, r9, _⟩ := own_reads hvVals_len (by omega) O9.out
                 injection e9 with e91 _ e92
                 subst e91 e92
                 obtain ⟨ga, gc, e9, r8, _⟩ := own_reads hvVals_len (by omega) P9.out
                 injection e9 with e91 _ e92
                 subst e91 e92
                 refine (same_helds _ _ q _ _ hs _ r9 r8 (by omega)).mono ?_
                 rintro e w10 ⟨rfl, b10⟩
                 have H10 := hide (H9.out.below C b10)
                 have P10 := hide (own_below P9.out b10)
                 have R10 := hide (show RowBy V8 Q w10 (.slice va q vc) from fun i hi => ⟨Nat.lt_of_lt_of_le (R9.out i hi).1 b10.size, (R9.out i hi).2⟩)
                 clear r9 r8 b10))
            go_roundw
            case rel => exact ⟨i + 1, by omega, by go_num, V8, _, H10.out, F1.out, F2.out, R10.out, P10.out⟩
            case measure => simp [intOf]; omega
          by_cases m9 : (r : Int) < 9
          · go_wp2_with (first
              | (go_at_call 21; refine (Y0.out.run C (t := 2) (n := (r : Int)) (by decide) (wf_small (by omega) (by omega))).mono ?_; rintro e w8 ⟨V8, rfl, h8, t8, u8⟩; have H8 := hide h8; have R8 := hide (Y3.out.next t8 u8); have O8 := hide (Y3.out.own Y4.out t8); clear h8 t8 u8)
              | (go_at_call 15
                 have hh : holds (runS s1 2 (r : Int)) 1 = holds s1 1 := holds_run (by decide)
                 have K8 := C.held H8.out.pk (t := 1) (by decide)
                 rw [hvs_of hh, hh, E1.out, E2.out] at K8
                 refine K8.mono ?_
                 rintro e w9 ⟨v9, rfl, o9, b9⟩
                 obtain ⟨v9a, v9c, rfl⟩ := own_sliceI o9
                 have H9 := hide (H8.out.below C b9)
                 have O9 := hide o9
                 have P9 := hide (own_below O8.out b9)
                 have R9 := hide (show RowBy V8 Q w9 (.slice va q vc) from fun i hi => ⟨Nat.lt_of_lt_of_le (R8.out i hi).1 b9.size, (R8.out i hi).2⟩)
                 have F1 := hide (show (holds (runS s1 2 (r : Int)) 1).length = q from by rw [hh]; exact E1.out)
                 have F2 := hide (show hvsL (runS s1 2 (r : Int)) 1 = hs from by rw [hvs_of hh]; exact E2.out)
                 clear o9 b9 K8 hh)
              | (go_at_call 22
                 obtain ⟨ga, gc, e9, r9, _⟩ := own_reads hvVals_len (by omega) O9.out
                 injection e9 with e91 _ e92
                 subst e91 e92
                 obtain ⟨ga, gc, e9, r8, _⟩ := own_reads hvVals_len (by omega) P9.out
                 injection e9 with e91 _ e92
                 subst e91 e92
                 refine (same_helds _ _ q _ _ hs _ r9 r8 (by omega)).mono ?_
                 rintro e w10 ⟨rfl, b10⟩
                 have H10 := hide (H9.out.below C b10)
                 have P10 := hide (own_below P9.out b10)
                 have R10 := hide (show RowBy V8 Q w10 (.slice va q vc) from fun i hi => ⟨Nat.lt_of_lt_of_le (R9.out i hi).1 b10.size, (R9.out i hi).2⟩)
                 clear r9 r8 b10))
            go_roundw
            case rel => exact ⟨i + 1, by omega, by go_num, V8, _, H10.out, F1.out, F2.out, R10.out, P10.out⟩
            case measure => simp [intOf]; omega
          · go_wp2_with (first
              | (go_at_call 14; refine (Y0.out.leave C (t := 2) (by decide)).mono ?_; rintro e w8 ⟨v8, R0, V8, rfl, _, h8, t8, u8⟩; have H8 := hide h8; have R8 := hide (Y3.out.next t8 u8); have O8 := hide (Y3.out.own Y4.out t8); clear h8 t8 u8)
              | (go_at_call 15
                 have hh : holds (leaveS s1 2) 1 = holds s1 1 := holds_leave (by decide)
                 have K8 := C.held H8.out.pk (t := 1) (by decide)
                 rw [hvs_of hh, hh, E1.out, E2.out] at K8
                 refine K8.mono ?_
                 rintro e w9 ⟨v9, rfl, o9, b9⟩
                 obtain ⟨v9a, v9c, rfl⟩ := own_sliceI o9
                 have H9 := hide (H8.out.below C b9)
                 have O9 := hide o9
                 have P9 := hide (own_below O8.out b9)
                 have R9 := hide (show RowBy V8 Q w9 (.slice va q vc) from fun i hi => ⟨Nat.lt_of_lt_of_le (R8.out i hi).1 b9.size, (R8.out i hi).2⟩)
                 have F1 := hide (show (holds (leaveS s1 2) 1).length = q from by rw [hh]; exact E1.out)
                 have F2 := hide (show hvsL (leaveS s1 2) 1 = hs from by rw [hvs_of hh]; exact E2.out)
                 clear o9 b9 K8 hh)
              | (go_at_call 22
                 obtain ⟨ga, gc, e9, r9, _⟩ := own_reads hvVals_len (by omega) O9.out
                 injection e9 with e91 _ e92
                 subst e91 e92
                 obtain ⟨ga, gc, e9, r8, _⟩ := own_reads hvVals_len (by omega) P9.out
                 injection e9 with e91 _ e92
                 subst e91 e92
                 refine (same_helds _ _ q _ _ hs _ r9 r8 (by omega)).mono ?_
                 rintro e w10 ⟨rfl, b10⟩
                 have H10 := hide (H9.out.below C b10)
                 have P10 := hide (own_below P9.out b10)
                 have R10 := hide (show RowBy V8 Q w10 (.slice va q vc) from fun i hi => ⟨Nat.lt_of_lt_of_le (R9.out i hi).1 b10.size, (R9.out i hi).2⟩)
                 clear r9 r8 b10))
            go_roundw
            case rel => exact ⟨i + 1, by omega, by go_num, V8, _, H10.out, F1.out, F2.out, R10.out, P10.out⟩
            case measure => simp [intOf]; omega
        · obtain rfl : i = p := by omega
          go_wp2_with (first
            | (go_at_call 8; refine (lkawake_any CT C _).mono ?_; rintro e w10 ⟨rfl, b10⟩; have B10 := hide (Y0.out.bel.trans (b10.mono Y0.out.bel.size)); clear b10))
          go_ret
          exact ⟨rfl, B10.out⟩
end
end Go.Proofs.Yteeofpjfgjhemaa
