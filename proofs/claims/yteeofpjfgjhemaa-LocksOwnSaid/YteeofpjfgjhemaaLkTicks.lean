/-
  The law LocksTicks.
-/
import Derived.Test.YteeofpjfgjhemaaLkAwake
namespace Go.Proofs.Yteeofpjfgjhemaa
open Go.ChangeShapes Go.WideShapes Go.ChangeAt Go.RowKit
set_option linter.unusedVariables false
set_option linter.unusedSimpArgs false
theorem low_int (x z : Int) (w : World) (hn : 0 < z) (hb : z ≤ 1000000) :
    Calls Try.prog 11 #[.int .i64 x, .int .i64 z] w fun e w' => (∃ r : Nat, (r : Int) < z ∧ e = .returned (.int .i64 (r : Int))) ∧ w = w' := by
  obtain ⟨n, rfl⟩ := Int.eq_ofNat_of_zero_le (show 0 ≤ z by omega)
  refine (low_any x n w (by omega) (by omega)).mono ?_
  rintro e w' ⟨⟨r, hr, he⟩, hw⟩
  exact ⟨⟨r, by omega, he⟩, hw⟩
theorem wf_small {x : Int} (h0 : -1000000 ≤ x) (h : x ≤ 1000000) : (Lit.int .i64 x).wf = true := by
  simp [Lit.wf, IntKind.min, IntKind.max, IntKind.bits, IntKind.signed]; omega
def twoT : List Mu := [⟨1, 100⟩, ⟨2, 50⟩]
theorem builtT1 : Try.prog.built 49 [(0, .int .i64 1), (1, .int .i64 100)] = some #[.int .i64 1, .int .i64 100] := by kernel_rfl
theorem builtT2 : Try.prog.built 49 [(0, .int .i64 2), (1, .int .i64 50)] = some #[.int .i64 2, .int .i64 50] := by kernel_rfl
theorem builtT3 (k : Int) : Try.prog.built 44 [(0, .int .i64 0), (1, .int .i64 k)] = some #[.int .i64 0, .int .i64 k] := by kernel_rfl
theorem builtT4 (k : Int) : Try.prog.built 44 [(0, .int .i64 1), (1, .int .i64 k)] = some #[.int .i64 1, .int .i64 k] := by kernel_rfl
attribute [local go_sem] builtT1 builtT2 builtT3 builtT4
theorem add_small {a b : Int} (h0 : 0 ≤ a) (h1 : 0 ≤ b) (h : a + b ≤ 1000000) : addN a b = a + b := by
  unfold addN
  rw [cl_in a h0 (by omega), cl_in b h1 (by omega), cl_in _ (by omega) (by omega)]
def sT0 : Lks := ⟨twoT, [], []⟩
def sT1 (a : Int) : Lks := ⟨twoT, [⟨1, 0, a⟩], []⟩
def sT2 (a b : Int) : Lks := ⟨twoT, [⟨1, 0, a⟩, ⟨1, 1, b⟩], []⟩
theorem sT_run1 {a : Int} (h0 : 0 ≤ a) (h : a ≤ 1000) : runS (sT1 0) 1 a = sT1 a := by
  simp [runS, sT1, runH, add_small (Int.le_refl 0) h0 (by omega)]
theorem sT_run2 (a c : Int) : runS (sT1 a) 2 c = sT1 a := by
  simp [runS, sT1, runH]
theorem sT_lock (a : Int) : lockE (sT1 a) 1 1 = 0 ∧ lockB (sT1 a) 1 1 = true ∧ lockS (sT1 a) 1 1 = sT2 a 0 := by
  have h : lockE (sT1 a) 1 1 = 0 := by rfl
  have h2 : ownL (sT1 a) 1 = -1 := by rfl
  refine ⟨h, by simp [lockB, h, h2], ?_⟩
  unfold lockS
  rw [if_pos h, h2, if_pos (by omega)]
  rfl
theorem sT_run3 {a b : Int} (a0 : 0 ≤ a) (b0 : 0 ≤ b) (ha : a ≤ 1000) (hb : b ≤ 1000) : runS (sT2 a 0) 1 b = sT2 (a + b) b := by
  simp [runS, sT2, runH, add_small (Int.le_refl 0) b0 (by omega), add_small a0 b0 (by omega)]
theorem sT_held (a b : Int) : hvsL (sT2 a b) 1 = [⟨0, a⟩, ⟨1, b⟩] := by rfl
theorem sT_over1 {a b n : Int} (a0 : 0 ≤ a) (b0 : 0 ≤ b) (n0 : 0 ≤ n) (ha : a ≤ 1000) (hb : b ≤ 1000) (hn : n ≤ 1000) : overL (sT2 a b) 1 n = (decide (100 < a + n) || decide (50 < b + n)) := by
  simp [overL, holds, sT2, limAt, muAt, twoT, add_small a0 n0 (by omega), add_small b0 n0 (by omega)]
theorem sT_over2 (a b n : Int) : overL (sT2 a b) 2 n = false := by simp [overL, holds, sT2]
section
variable {PT : World → (Nat → Prop) → Nat → List Mu → Prop} {PK : World → (Nat → Prop) → (Nat → Prop) → Nat → Nat → Lks → Prop}
set_option maxRecDepth 10000 in
set_option maxHeartbeats 8000000 in
theorem walk_locksTicksC (CT : PTable PT) (C : PLocks PT PK) (w : World) (xa xb xc : Int) : Calls Try.prog 5 #[.int .i64 xa, .int .i64 xb, .int .i64 xc] w fun e w' => e = .returned (.bool true) ∧ Below w.heap.size w w' := by
  have NW := hide (show Calls Try.prog 9 #[.slice (some ⟨w.heap.size, 0, none⟩) 2 2] (w.alloc (.cells #[.int .i64 1, .int .i64 100, .int .i64 2, .int .i64 50] 49)) fun e w' => ∃ T Q, e = .returned (.tuple #[.pointer (some ⟨T, 0, none⟩), .int .i64 0]) ∧ PT w' Q T twoT ∧ Below w.heap.size w w' ∧ ∀ i, Q i → w.heap.size ≤ i from
    rank_lit CT w twoT (by decide) (fun m hm => by simp [twoT] at hm; rcases hm with rfl | rfl <;> exact ⟨by decide, by decide⟩) (by decide))
  have l1 : lockE sT0 1 0 = 0 := by decide
  have l2 : lockB sT0 1 0 = true := by decide
  have l3 : lockS sT0 1 0 = sT1 0 := by rfl
  have K1 := hide (fun (w1 : World) (U Q : Nat → Prop) (T S : Nat) (h : Lin PK w w1 U Q T S sT0) => by
    have := h.lock C (t := 1) (m := 0) (by decide) (by decide) (by decide)
    rw [l1, l2, l3] at this
    exact this)
  clear l1 l2 l3
  go_enter Try.func5, Try.ntmps5
  go_upto_region 2 with (first
    | (go_at_call 11; refine (low_int _ 20 _ (by omega) (by omega)).mono ?_; rintro e w' ⟨⟨r, hr, rfl⟩, rfl⟩))
  rename_i Q9 ra hra rb hrb K9 k9
  obtain ⟨a, hA⟩ : ∃ a : Int, a = 1 + (ra : Int) := ⟨_, rfl⟩
  obtain ⟨b, hB⟩ : ∃ b : Int, b = 1 + (rb : Int) := ⟨_, rfl⟩
  obtain ⟨c, hC⟩ : ∃ c : Int, c = 1 + (r : Int) := ⟨_, rfl⟩
  rw [← hA, ← hB, ← hC]
  have a1 : 1 ≤ a := by omega
  have a2 : a ≤ 20 := by omega
  have b1 : 1 ≤ b := by omega
  have b2 : b ≤ 20 := by omega
  have c1 : 1 ≤ c := by omega
  have c2 : c ≤ 20 := by omega
  clear hA hB hC hra hrb hr
  obtain ⟨m, hM⟩ : ∃ m : Int, m = min (100 - a - b) (50 - b) := ⟨_, rfl⟩
  have m0 : 0 ≤ m := by omega
  have m1 : m ≤ 100 - a - b := by omega
  have m2 : m ≤ 50 - b := by omega
  have m3 : m = 100 - a - b ∨ m = 50 - b := by omega
  have K2 := hide (fun (w1 : World) (U Q : Nat → Prop) (T S : Nat) (h : Lin PK w w1 U Q T S (sT1 0)) => by
    have := h.run C (t := 1) (n := a) (by decide) (wf_small (by omega) (by omega))
    rw [sT_run1 (by omega) (by omega)] at this
    exact this)
  have K3 := hide (fun (w1 : World) (U Q : Nat → Prop) (T S : Nat) (h : Lin PK w w1 U Q T S (sT1 a)) => by
    have := h.run C (t := 2) (n := c) (by decide) (wf_small (by omega) (by omega))
    rw [sT_run2] at this
    exact this)
  have K4 := hide (fun (w1 : World) (U Q : Nat → Prop) (T S : Nat) (h : Lin PK w w1 U Q T S (sT1 a)) => by
    have := h.lock C (t := 1) (m := 1) (by decide) (by decide) (by decide)
    rw [(sT_lock a).1, (sT_lock a).2.1, (sT_lock a).2.2] at this
    exact this)
  have K5 := hide (fun (w1 : World) (U Q : Nat → Prop) (T S : Nat) (h : Lin PK w w1 U Q T S (sT2 a 0)) => by
    have := h.run C (t := 1) (n := b) (by decide) (wf_small (by omega) (by omega))
    rw [sT_run3 (by omega) (by omega) (by omega) (by omega)] at this
    exact this)
  have K6 := hide (fun (w1 : World) (U Q : Nat → Prop) (T S : Nat) (h : Lin PK w w1 U Q T S (sT2 (a + b) b)) => by
    have := C.held h.pk (t := 1) (by decide)
    rw [sT_held, show (holds (sT2 (a + b) b) 1).length = 2 from rfl] at this
    exact this)
  have o1 : overL (sT2 (a + b) b) 1 m = false := by
    rw [sT_over1 (by omega) (by omega) (by omega) (by omega) (by omega) (by omega)]
    simp; omega
  have o2 : overL (sT2 (a + b) b) 1 (m + 1) = true := by
    rw [sT_over1 (by omega) (by omega) (by omega) (by omega) (by omega) (by omega)]
    simp; omega
  have K7 := hide (fun (w1 : World) (U Q : Nat → Prop) (T S : Nat) (h : Lin PK w w1 U Q T S (sT2 (a + b) b)) => by
    have := C.over h.pk (t := 1) (n := m) (by decide) (wf_small (by omega) (by omega))
    rw [o1] at this
    exact this)
  have K8 := hide (fun (w1 : World) (U Q : Nat → Prop) (T S : Nat) (h : Lin PK w w1 U Q T S (sT2 (a + b) b)) => by
    have := C.over h.pk (t := 1) (n := m + 1) (by decide) (wf_small (by omega) (by omega))
    rw [o2] at this
    exact this)
  have K9' := hide (fun (w1 : World) (U Q : Nat → Prop) (T S : Nat) (h : Lin PK w w1 U Q T S (sT2 (a + b) b)) => by
    have := C.over h.pk (t := 2) (n := 5000) (by decide) (by decide)
    rw [sT_over2] at this
    exact this)
  have HM := hide hM
  have M3 := hide m3
  clear o1 o2 hM m3
  go_upto_region 12 with (first
    | (go_at_call 9; refine NW.out.mono ?_; rintro e w1 ⟨T, Q, rfl, t1, b1, q1⟩; have T1 := hide t1; have B1 := hide b1; have Q1 := hide q1; clear t1 b1 q1)
    | (go_at_call 10; refine (lin_new C T1.out B1.out Q1.out).mono ?_; rintro e w2 ⟨S, U, rfl, h2⟩; have H2 := hide h2; clear h2)
    | (go_at_call 12; with_reducible refine (K1.out _ _ _ _ _ H2.out).mono ?_; rintro e w3 ⟨U3, rfl, h3, _, _⟩; have H3 := hide h3; clear h3)
    | (go_at_call 21; with_reducible refine (K2.out _ _ _ _ _ H3.out).mono ?_; rintro e w4 ⟨U4, rfl, h4, _, _⟩; have H4 := hide h4; clear h4)
    | (go_at_call 21; with_reducible refine (K3.out _ _ _ _ _ H4.out).mono ?_; rintro e w5 ⟨U5, rfl, h5, _, _⟩; have H5 := hide h5; clear h5)
    | (go_at_call 12; with_reducible refine (K4.out _ _ _ _ _ H5.out).mono ?_; rintro e w6 ⟨U6, rfl, h6, _, _⟩; have H6 := hide h6; clear h6)
    | (go_at_call 21; with_reducible refine (K5.out _ _ _ _ _ H6.out).mono ?_; rintro e w7 ⟨U7, rfl, h7, _, _⟩; have H7 := hide h7; clear h7)
    | (go_at_call 15; refine (K6.out _ _ _ _ _ H7.out).mono ?_; rintro e w8 ⟨v, rfl, o8, b8⟩; have H8 := hide (H7.out.below C b8); obtain ⟨va, vc, rfl⟩ := own_sliceI o8; have O8 := hide o8; clear o8 b8)
    | (refine wpList_build rfl 49 _ rfl (by kernel_rfl) ?_))
  go_cut [11] (fun v wx => v = .int .i64 m ∧ wx = w8)
  case first =>
    by_cases h : 50 - b < 100 - a - b
    · go_wp2_with fail
      go_meet
      case rel => exact ⟨ret_val (by have := HM.out; omega), rfl⟩
    · go_wp2_with fail
      go_meet
      case rel => exact ⟨ret_val (by have := HM.out; omega), rfl⟩
  case rest =>
    obtain ⟨rfl, rfl⟩ := hcut
    go_wp2_with (first
      | (go_at_call 22
         obtain ⟨wz, hwz⟩ : ∃ wz, wz = wc.alloc (.cells #[.int .i64 0, .int .i64 (a + b), .int .i64 1, .int .i64 b] 44) := ⟨_, rfl⟩
         have b9 : Below wc.heap.size wc wz := by rw [hwz]; exact (Below.refl _ _).alloc (Nat.le_refl _) _
         rw [← hwz]
         have R1 : Reads 2 hvVals wz va 2 [⟨0, a + b⟩, ⟨1, b⟩] := by
           obtain ⟨ga, gc, e, r, _⟩ := own_reads hvVals_len (by omega) O8.out
           injection e with e1 _ e2
           subst e1 e2
           exact r.below b9
         have R2 : Reads 2 hvVals wz (some ⟨wc.heap.size, 0, none⟩) 2 [⟨0, a + b⟩, ⟨1, b⟩] := by
           refine ⟨rfl, fun _ => ⟨_, 0, rfl, fun i x hx j u hu => ?_⟩⟩
           have h1 := flat_at (vals := hvVals) hvVals_len hx (show j < 2 from by have := (List.getElem?_eq_some_iff.1 hu).1; rw [hvVals_len] at this; exact this)
           rw [hu] at h1
           have h2 := cells_new wc ([⟨0, a + b⟩, ⟨1, b⟩].flatMap hvVals) 44 _ rfl _ u h1
           rw [addr_add, Nat.zero_add] at h2
           rw [Nat.zero_add, hwz]
           exact h2
         refine (same_helds va _ 2 vc 2 _ _ R1 R2 (by omega)).mono ?_
         rintro e w9 ⟨rfl, b10⟩
         have H9 := hide (H8.out.below C (b9.trans (b10.mono b9.size)))
         clear hwz b9 b10 R1 R2)
      | (go_at_call 23; with_reducible refine (K7.out _ _ _ _ _ H9.out).mono ?_; rintro e w10 ⟨rfl, b10⟩; have H10 := hide (H9.out.below C b10); clear b10)
      | (go_at_call 23; with_reducible refine (K8.out _ _ _ _ _ H10.out).mono ?_; rintro e w11 ⟨rfl, b11⟩; have H11 := hide (H10.out.below C b11); clear b11)
      | (go_at_call 23; with_reducible refine (K9'.out _ _ _ _ _ H11.out).mono ?_; rintro e w12 ⟨rfl, b12⟩; have H12 := hide (H11.out.below C b12); clear b12)
      | (go_at_call 8; refine (lkawake_any CT C _).mono ?_; rintro e w13 ⟨rfl, b13⟩; have B13 := hide (H12.out.bel.trans (b13.mono H12.out.bel.size)); clear b13)
      | (refine wpList_build rfl 44 _ rfl (by kernel_rfl) ?_))
    go_ret
    exact ⟨rfl, B13.out⟩
end
end Go.Proofs.Yteeofpjfgjhemaa
