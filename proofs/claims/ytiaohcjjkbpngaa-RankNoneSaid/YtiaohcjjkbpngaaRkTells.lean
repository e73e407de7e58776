/-
  The law RankTells, over the contracts of the program's rank.
-/
import Derived.Test.YtiaohcjjkbpngaaRkBoth
import Derived.Test.YtiaohcjjkbpngaaLend
namespace Go.Proofs.Ytiaohcjjkbpngaa
open Go.ChangeShapes Go.WideShapes Go.ChangeAt Go.RowKit
set_option linter.unusedVariables false
section
variable {PT : World → Nat → List Mu → Prop}
theorem numI_any (w : World) (x : Int) : Calls Try.prog 13 #[.int .i64 x] w fun e w' => e = .returned (.int .i64 x) ∧ w = w' := by
  go_enter Try.func13, Try.ntmps13
  go_wp2_with fail
  go_ret
  exact ⟨rfl, rfl⟩
set_option maxRecDepth 10000 in
set_option maxHeartbeats 16000000 in
theorem walk_rankTellsC (C : PRank PT) (w : World) (a : Option Addr) (n c : Nat) (ms : List Mu) (hin : Came 2 muVals MuWf w a n c ms) (b : Option Addr) (p d : Nat) (hs : List Int) (hin2 : CameIn .i64 w b p d hs) (m : Int) (hm : (Lit.int .i64 m).wf = true) (r : Int) (hr : (Lit.int .i64 r).wf = true) :
    Calls Try.prog 3 #[.slice a n c, .slice b p d, .int .i64 m, .int .i64 r] w fun e w' => e = .returned (.bool true) ∧ Below w.heap.size w w' := by
  have hrd := hin.reads
  obtain ⟨hxl, hnc, hcm, hnil, hfit, _⟩ := hin
  obtain ⟨hi, hpd, hdm, hnil2, hwf⟩ := hin2
  have n63 : (n : Int) ≤ 9223372036854775807 := by unfold maxLen at hcm; omega
  have p63 : (p : Int) ≤ 9223372036854775807 := by unfold maxLen at hdm; omega
  by_cases h30 : (30 : Int) < (n : Int)
  · clear hrd hxl hnc hcm hnil hfit hi hpd hdm hnil2 hwf
    go_enter Try.func3, Try.ntmps3
    go_wp2_with (go_at_call 6; refine (rkawake_any C _).mono ?_; rintro e w2 ⟨rfl, b2⟩)
    go_ret
    exact ⟨rfl, b2⟩
  by_cases g30 : (30 : Int) < (p : Int)
  · clear hrd hxl hnc hcm hnil hfit hi hpd hdm hnil2 hwf
    go_enter Try.func3, Try.ntmps3
    go_wp2_with (go_at_call 6; refine (rkawake_any C _).mono ?_; rintro e w2 ⟨rfl, b2⟩)
    go_ret
    exact ⟨rfl, b2⟩
  have RD := hide (fun (W : World) (bw : Below w.heap.size w W) => hrd.below bw)
  have HI := hide (fun (W : World) (bw : Below w.heap.size w W) => hi.below bw)
  have HL := hide hxl
  have HNIL2 := hide hnil2
  have HWF := hide hwf
  have HM := hide hm
  have HR := hide hr
  have HNM := hide (show n ≤ maxLen from Nat.le_trans hnc hcm)
  have HPM := hide (show p ≤ maxLen from Nat.le_trans hpd hdm)
  have H30 := hide (show n ≤ 30 from by omega)
  have G30 := hide (show p ≤ 30 from by omega)
  by_cases hg : goodMu ms = true
  · have KN := hide (C.newGood w a n c ms hrd hfit hnc hcm hnil (by omega) hg)
    have KG := hide (fun (W : World) (bw : Below w.heap.size w W) => show Calls Try.prog 8 #[.slice a n c] W fun e w' => e = .returned (.bool true) ∧ W = w' from by have := rgood_any a n c ms W (RD.out W bw) HNM.out; rw [hg] at this; exact this)
    obtain ⟨rk, hrk⟩ : ∃ x, x = rankMu ms m := ⟨_, rfl⟩
    obtain ⟨lim, hlim⟩ : ∃ x, x = limMu ms m := ⟨_, rfl⟩
    obtain ⟨sm, hsm⟩ : ∃ x, x = sumMu ms r := ⟨_, rfl⟩
    obtain ⟨my, hmy⟩ : ∃ x, x = mayMu ms hs m := ⟨_, rfl⟩
    obtain ⟨ls, hls⟩ : ∃ x, x = leastMu ms hs := ⟨_, rfl⟩
    obtain ⟨l1, l2⟩ := ls
    have KL := hide (fun (W : World) (S : Nat) (q : Option Addr) (cc : Nat) (h : PT W S ms) (hn : NumsIn W q p cc hs) => show Calls Try.prog 10 #[.pointer (some ⟨S, 0, none⟩), .slice q p cc] W fun e w' => e = .returned (.tuple #[.int .i64 l1, .bool l2]) ∧ Below W.heap.size W w' from by have := C.least h hn; rw [← hls] at this; exact this)
    have KL2 := hide (fun (W : World) (bw : Below w.heap.size w W) => show Calls Try.prog 11 #[.slice a n c, .slice b p d] W fun e w' => e = .returned (.tuple #[.int .i64 l1, .bool l2]) ∧ ∃ q, w' = W.drewN q from by have := rleast_any a n c ms b p d hs W (RD.out W bw) (HI.out W bw) HNM.out HPM.out; rw [← hls] at this; exact this)
    have KM := hide (fun (W : World) (S : Nat) (q : Option Addr) (cc : Nat) (h : PT W S ms) (hn : NumsIn W q p cc hs) => show Calls Try.prog 14 #[.pointer (some ⟨S, 0, none⟩), .slice q p cc, .int .i64 m] W fun e w' => e = .returned (.int .i64 my) ∧ Below W.heap.size W w' from by have := C.may h hn HM.out; rw [← hmy] at this; exact this)
    have KM2 := hide (fun (W : World) (bw : Below w.heap.size w W) => show Calls Try.prog 15 #[.slice a n c, .slice b p d, .int .i64 m] W fun e w' => e = .returned (.int .i64 my) ∧ ∃ q, w' = W.drewN q from by have := rmay10_any a n c ms b p d hs m W (RD.out W bw) (HI.out W bw) HNM.out HPM.out; rw [← hmy] at this; exact this)
    have KS := hide (fun (W : World) (S : Nat) (h : PT W S ms) => show Calls Try.prog 16 #[.pointer (some ⟨S, 0, none⟩), .int .i64 r] W fun e w' => e = .returned (.int .i64 sm) ∧ Below W.heap.size W w' from by have := C.sum h HR.out; rw [← hsm] at this; exact this)
    have KS2 := hide (fun (W : World) (bw : Below w.heap.size w W) => show Calls Try.prog 17 #[.slice a n c, .int .i64 r] W fun e w' => e = .returned (.int .i64 sm) ∧ W = w' from by have := rsum10_any a n c ms r W (RD.out W bw) HNM.out; rw [← hsm] at this; exact this)
    have KK := hide (fun (W : World) (S : Nat) (h : PT W S ms) => show Calls Try.prog 19 #[.pointer (some ⟨S, 0, none⟩), .int .i64 m] W fun e w' => e = .returned (.int .i64 rk) ∧ Below W.heap.size W w' from by have := C.rank h HM.out; rw [← hrk] at this; exact this)
    have KI := hide (fun (W : World) (S : Nat) (h : PT W S ms) => show Calls Try.prog 20 #[.pointer (some ⟨S, 0, none⟩), .int .i64 m] W fun e w' => e = .returned (.int .i64 lim) ∧ Below W.heap.size W w' from by have := C.limit h HM.out; rw [← hlim] at this; exact this)
    have KE := hide (fun (W : World) (S : Nat) (h : PT W S ms) => show Calls Try.prog 18 #[.pointer (some ⟨S, 0, none⟩)] W fun e w' => e = .returned (.int .i64 (n : Int)) ∧ Below W.heap.size W w' from by have := C.len h; rw [HL.out] at this; exact this)
    obtain ⟨tf, htf⟩ : ∃ x, x = isMu n m := ⟨_, rfl⟩
    have KIs := hide (fun (W : World) => show Calls Try.prog 12 #[.slice a n c, .int .i64 m] W fun e w' => e = .returned (.bool tf) ∧ W = w' from by have := ris_any a n c m W HNM.out; rw [← htf] at this; exact this)
    have HRK := hide hrk
    have HLIM := hide hlim
    have HTF := hide htf
    have z0 : (sm == sm) = true := by simp
    have z1 : (my == my) = true := by simp
    have z2 : (l1 == l1) = true := by simp
    have z3 : (l2 == l2) = true := by simp
    have z4 : ((n : Int) == (n : Int)) = true := by simp
    have z5 : (rk == rk) = true := by simp
    have z6 : (lim == lim) = true := by simp
    clear hrk hlim hsm hmy hls htf hrd hxl hnc hcm hnil hfit hi hpd hdm hnil2 hwf hm hr hg
    cases tf with
    | true =>
      obtain ⟨mn, hmn, hlt⟩ := isMu_iff.1 HTF.out.symm
      subst hmn
      obtain ⟨x, ab, ao, hx, rfl, _⟩ := (RD.out w (Below.refl _ _)).at_ hlt
      have erk := HRK.out
      have elim := HLIM.out
      rw [rankMu, HL.out, if_pos HTF.out.symm, muAt_nat hx] at erk
      rw [limMu, HL.out, if_pos HTF.out.symm, muAt_nat hx] at elim
      have CX := hide (fun (W : World) (bw : Below w.heap.size w W) => show W.cell? ⟨ab, ao + mn * 2, none⟩ = some (.int .i64 rk) ∧ W.cell? ⟨ab, ao + mn * 2 + 1, none⟩ = some (.int .i64 lim) from by
        obtain ⟨x', ab', ao', hx', e, hc⟩ := (RD.out W bw).at_ hlt
        injection e with e
        injection e with e1 e2
        subst e1 e2
        rw [hx] at hx'
        injection hx' with hx'
        subst hx'
        rw [erk, elim]
        exact ⟨hc 0 _ rfl, hc 1 _ rfl⟩)
      have m0 : (0 : Int) ≤ (mn : Int) := by omega
      have m1 : (mn : Int) < (n : Int) := by omega
      clear erk elim hx
      go_enter Try.func3, Try.ntmps3
      go_upto_region 13 with (first
        | (go_at_call 7; refine KN.out.mono ?_; rintro e w1 ⟨S, rfl, t1, b1⟩; have T1 := hide t1; have B1 := hide b1; clear t1 b1)
        | (go_at_call 8; refine (KG.out _ B1.out).mono ?_; rintro e w' ⟨rfl, rfl⟩)
        | (go_at_call 9; refine (lend_any b p d hs _ (HI.out _ B1.out) HNIL2.out (by have := G30.out; omega)).mono ?_; rintro e w2 ⟨rfl, r2, b2⟩; have R2 := hide r2; have T2 := hide (C.keep T1.out b2); have N2 := hide (show NumsIn w2 (some ⟨_, 0, none⟩) p (p + 3) hs from ⟨room_ints r2 (HI.out _ B1.out).1, by omega, by have := G30.out; unfold maxLen; omega, (fun e => by cases e), G30.out, HWF.out⟩); have B2 := hide (B1.out.trans (b2.mono B1.out.size)); clear r2 b2)
        | (go_at_call 10; refine (KL.out _ S _ _ T2.out N2.out).mono ?_; rintro e w3 ⟨rfl, b3⟩; have T3 := hide (C.keep T2.out b3); have N3 := hide (N2.out.below b3); have R3 := hide (room_below R2.out b3); have B3 := hide (B2.out.trans (b3.mono B2.out.size)); clear b3)
        | (go_at_call 11; refine (KL2.out _ B3.out).mono ?_; rintro e w4 ⟨rfl, q4, e4⟩; have b4 : Below w3.heap.size w3 w4 := (by rw [e4]; exact below_drewN (Below.refl w3.heap.size w3) q4); clear e4; have T4 := hide (C.keep T3.out b4); have N4 := hide (N3.out.below b4); have R4 := hide (room_below R3.out b4); have B4 := hide (B3.out.trans (b4.mono B3.out.size)); clear b4)
        | (go_at_call 12; refine (KIs.out _).mono ?_; rintro e w' ⟨rfl, rfl⟩))
      obtain ⟨cx0, cx1⟩ := CX.out _ B4.out
      go_region
      have bq : Below w4.heap.size w4 w4.drew := below_drewN (Below.refl w4.heap.size w4) 1
      have T5 := hide (C.keep T4.out bq)
      have N5 := hide (N4.out.below bq)
      have R5 := hide (room_below R4.out bq)
      have B5 := hide (B4.out.trans (bq.mono B4.out.size))
      clear bq cx0 cx1
      generalize w4.drew = w5 at *
      go_wp2_with (first
        | (go_at_call 14; refine (KM.out _ S _ _ T5.out N5.out).mono ?_; rintro e w6 ⟨rfl, b6⟩; have T6 := hide (C.keep T5.out b6); have R6 := hide (room_below R5.out b6); have B6 := hide (B5.out.trans (b6.mono B5.out.size)); clear b6)
        | (go_at_call 13; refine (numI_any _ _).mono ?_; rintro e w' ⟨rfl, rfl⟩)
        | (go_at_call 15; refine (KM2.out _ B6.out).mono ?_; rintro e w7 ⟨rfl, q7, e7⟩; have b7 : Below w6.heap.size w6 w7 := (by rw [e7]; exact below_drewN (Below.refl w6.heap.size w6) q7); clear e7; have T7 := hide (C.keep T6.out b7); have R7 := hide (room_below R6.out b7); have B7 := hide (B6.out.trans (b7.mono B6.out.size)); clear b7)
        | (go_at_call 16; refine (KS.out _ S T7.out).mono ?_; rintro e w8 ⟨rfl, b8⟩; have T8 := hide (C.keep T7.out b8); have R8 := hide (room_below R7.out b8); have B8 := hide (B7.out.trans (b8.mono B7.out.size)); clear b8)
        | (go_at_call 17; refine (KS2.out _ B8.out).mono ?_; rintro e w' ⟨rfl, rfl⟩)
        | (go_at_call 18; refine (KE.out _ S T8.out).mono ?_; rintro e w9 ⟨rfl, b9⟩; have T9 := hide (C.keep T8.out b9); have R9 := hide (room_below R8.out b9); have B9 := hide (B8.out.trans (b9.mono B8.out.size)); clear b9)
        | (go_at_call 19; refine (KK.out _ S T9.out).mono ?_; rintro e w10 ⟨rfl, b10⟩; have T10 := hide (C.keep T9.out b10); have R10 := hide (room_below R9.out b10); have B10 := hide (B9.out.trans (b10.mono B9.out.size)); clear b10)
        | (go_at_call 20; refine (KI.out _ S T10.out).mono ?_; rintro e w11 ⟨rfl, b11⟩; have R11 := hide (room_below R10.out b11); have B11 := hide (B10.out.trans (b11.mono B10.out.size)); clear b11)
        | (go_at_call 21; refine (kept_any _ b p d hs _ R11.out (HI.out _ B11.out) (by have := G30.out; omega)).mono ?_; rintro e w12 ⟨rfl, b12⟩; have B12 := hide (B11.out.trans (b12.mono B11.out.size)); clear b12)
        | (go_at_call 6; refine (rkawake_any C _).mono ?_; rintro e w13 ⟨rfl, b13⟩; have B13 := hide (B12.out.trans (b13.mono B12.out.size)); clear b13))
      go_ret
      exact ⟨rfl, B13.out⟩
    | false =>
      have erk := HRK.out
      have elim := HLIM.out
      rw [rankMu, HL.out, if_neg (by rw [← HTF.out]; simp)] at erk
      rw [limMu, HL.out, if_neg (by rw [← HTF.out]; simp)] at elim
      subst erk elim
      go_enter Try.func3, Try.ntmps3
      go_upto_region 14 with (first
        | (go_at_call 7; refine KN.out.mono ?_; rintro e w1 ⟨S, rfl, t1, b1⟩; have T1 := hide t1; have B1 := hide b1; clear t1 b1)
        | (go_at_call 8; refine (KG.out _ B1.out).mono ?_; rintro e w' ⟨rfl, rfl⟩)
        | (go_at_call 9; refine (lend_any b p d hs _ (HI.out _ B1.out) HNIL2.out (by have := G30.out; omega)).mono ?_; rintro e w2 ⟨rfl, r2, b2⟩; have R2 := hide r2; have T2 := hide (C.keep T1.out b2); have N2 := hide (show NumsIn w2 (some ⟨_, 0, none⟩) p (p + 3) hs from ⟨room_ints r2 (HI.out _ B1.out).1, by omega, by have := G30.out; unfold maxLen; omega, (fun e => by cases e), G30.out, HWF.out⟩); have B2 := hide (B1.out.trans (b2.mono B1.out.size)); clear r2 b2)
        | (go_at_call 10; refine (KL.out _ S _ _ T2.out N2.out).mono ?_; rintro e w3 ⟨rfl, b3⟩; have T3 := hide (C.keep T2.out b3); have N3 := hide (N2.out.below b3); have R3 := hide (room_below R2.out b3); have B3 := hide (B2.out.trans (b3.mono B2.out.size)); clear b3)
        | (go_at_call 11; refine (KL2.out _ B3.out).mono ?_; rintro e w4 ⟨rfl, q4, e4⟩; have b4 : Below w3.heap.size w3 w4 := (by rw [e4]; exact below_drewN (Below.refl w3.heap.size w3) q4); clear e4; have T4 := hide (C.keep T3.out b4); have N4 := hide (N3.out.below b4); have R4 := hide (room_below R3.out b4); have B4 := hide (B3.out.trans (b4.mono B3.out.size)); clear b4)
        | (go_at_call 12; refine (KIs.out _).mono ?_; rintro e w' ⟨rfl, rfl⟩))
      have T5 := hide T4.out
      have N5 := hide N4.out
      have R5 := hide R4.out
      have B5 := hide B4.out
      go_wp2_with (first
        | (go_at_call 14; refine (KM.out _ S _ _ T5.out N5.out).mono ?_; rintro e w6 ⟨rfl, b6⟩; have T6 := hide (C.keep T5.out b6); have R6 := hide (room_below R5.out b6); have B6 := hide (B5.out.trans (b6.mono B5.out.size)); clear b6)
        | (go_at_call 13; refine (numI_any _ _).mono ?_; rintro e w' ⟨rfl, rfl⟩)
        | (go_at_call 15; refine (KM2.out _ B6.out).mono ?_; rintro e w7 ⟨rfl, q7, e7⟩; have b7 : Below w6.heap.size w6 w7 := (by rw [e7]; exact below_drewN (Below.refl w6.heap.size w6) q7); clear e7; have T7 := hide (C.keep T6.out b7); have R7 := hide (room_below R6.out b7); have B7 := hide (B6.out.trans (b7.mono B6.out.size)); clear b7)
        | (go_at_call 16; refine (KS.out _ S T7.out).mono ?_; rintro e w8 ⟨rfl, b8⟩; have T8 := hide (C.keep T7.out b8); have R8 := hide (room_below R7.out b8); have B8 := hide (B7.out.trans (b8.mono B7.out.size)); clear b8)
        | (go_at_call 17; refine (KS2.out _ B8.out).mono ?_; rintro e w' ⟨rfl, rfl⟩)
        | (go_at_call 18; refine (KE.out _ S T8.out).mono ?_; rintro e w9 ⟨rfl, b9⟩; have T9 := hide (C.keep T8.out b9); have R9 := hide (room_below R8.out b9); have B9 := hide (B8.out.trans (b9.mono B8.out.size)); clear b9)
        | (go_at_call 19; refine (KK.out _ S T9.out).mono ?_; rintro e w10 ⟨rfl, b10⟩; have T10 := hide (C.keep T9.out b10); have R10 := hide (room_below R9.out b10); have B10 := hide (B9.out.trans (b10.mono B9.out.size)); clear b10)
        | (go_at_call 20; refine (KI.out _ S T10.out).mono ?_; rintro e w11 ⟨rfl, b11⟩; have R11 := hide (room_below R10.out b11); have B11 := hide (B10.out.trans (b11.mono B10.out.size)); clear b11)
        | (go_at_call 21; refine (kept_any _ b p d hs _ R11.out (HI.out _ B11.out) (by have := G30.out; omega)).mono ?_; rintro e w12 ⟨rfl, b12⟩; have B12 := hide (B11.out.trans (b12.mono B11.out.size)); clear b12)
        | (go_at_call 6; refine (rkawake_any C _).mono ?_; rintro e w13 ⟨rfl, b13⟩; have B13 := hide (B12.out.trans (b13.mono B12.out.size)); clear b13))
      go_ret
      exact ⟨rfl, B13.out⟩
  · have hg' : goodMu ms = false := by simpa using hg
    have KN := hide (C.newBad w a n c ms hrd hfit hnc hcm hnil (by omega) hg')
    have KG := hide (fun (W : World) (bw : Below w.heap.size w W) => show Calls Try.prog 8 #[.slice a n c] W fun e w' => e = .returned (.bool false) ∧ W = w' from by have := rgood_any a n c ms W (RD.out W bw) HNM.out; rw [hg'] at this; exact this)
    clear hrd hxl hnc hcm hnil hfit hi hpd hdm hnil2 hwf hm hr hg hg'
    go_enter Try.func3, Try.ntmps3
    go_wp2_with (first
      | (go_at_call 7; refine KN.out.mono ?_; rintro e w1 ⟨rfl, b1⟩; have B1 := hide b1; clear b1)
      | (go_at_call 8; refine (KG.out _ B1.out).mono ?_; rintro e w' ⟨rfl, rfl⟩)
      | (go_at_call 6; refine (rkawake_any C _).mono ?_; rintro e w2 ⟨rfl, b2⟩; have B2 := hide (B1.out.trans (b2.mono B1.out.size)); clear b2))
    go_ret
    exact ⟨rfl, B2.out⟩
end
end Go.Proofs.Ytiaohcjjkbpngaa
