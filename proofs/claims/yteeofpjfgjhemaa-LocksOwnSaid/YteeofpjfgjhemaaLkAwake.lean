/-
  awake of stage 12; the law LocksNone.
-/
import Derived.Test.YteeofpjfgjhemaaLkIn
import Derived.Deep.RegionHeld3
import Derived.Deep.QuietTactic
import Derived.BigQuiet
import Derived.Deep.DeepCutAuto
namespace Go.Proofs.Yteeofpjfgjhemaa
open Go.ChangeShapes Go.WideShapes Go.ChangeAt Go.RowKit
set_option linter.unusedVariables false
def twoA : List Mu := [⟨1, 5⟩, ⟨2, 7⟩]
theorem builtA1 : Try.prog.built 49 [(0, .int .i64 1), (1, .int .i64 5)] = some #[.int .i64 1, .int .i64 5] := by kernel_rfl
theorem builtA2 : Try.prog.built 49 [(0, .int .i64 2), (1, .int .i64 7)] = some #[.int .i64 2, .int .i64 7] := by kernel_rfl
attribute [local go_sem] builtA1 builtA2
def sA0 : Lks := ⟨twoA, [], []⟩
def sA1 : Lks := ⟨twoA, [⟨3, 0, 0⟩], []⟩
def sA2 : Lks := ⟨twoA, [⟨3, 0, 0⟩], [⟨4, 0⟩]⟩
theorem rises_one {R : List Int} {W : Int → Prop} {x : Int} (h : R.Pairwise (· < ·)) (hw : ∀ y, y ∈ R ↔ W y) (e : ∀ y, W y ↔ y = x) : R = [x] :=
  rises_ext h (by simp) fun y => by rw [hw, e]; simp
section
variable {PT : World → (Nat → Prop) → Nat → List Mu → Prop} {PK : World → (Nat → Prop) → (Nat → Prop) → Nat → Nat → Lks → Prop}
set_option maxRecDepth 10000 in
set_option maxHeartbeats 8000000 in
theorem lkawake_any (CT : PTable PT) (C : PLocks PT PK) (w : World) : Calls Try.prog 8 #[] w fun e w' => e = .returned (.bool true) ∧ Below w.heap.size w w' := by
  have l1 : lockE sA0 3 0 = 0 := by decide
  have l2 : lockB sA0 3 0 = true := by decide
  have l3 : lockS sA0 3 0 = sA1 := by rfl
  have l4 : lockE sA1 4 0 = 0 := by decide
  have l5 : lockB sA1 4 0 = false := by decide
  have l6 : lockS sA1 4 0 = sA2 := by rfl
  have l7 : unlockE sA2 3 0 = 0 := by decide
  have l8 : ∀ y, unlockW sA2 3 0 y ↔ y = 4 := by
    intro y
    unfold unlockW
    constructor
    · rintro ⟨_, z, hz, e, _⟩
      simp [sA2] at hz
      subst hz
      exact e.symm
    · rintro rfl
      exact ⟨by decide, ⟨4, 0⟩, by simp [sA2], rfl, rfl⟩
  have l9 : ownL (unlockS sA2 3 0) 0 = -1 := by decide
  have NW := hide (show Calls Try.prog 9 #[.slice (some ⟨w.heap.size, 0, none⟩) 2 2] (w.alloc (.cells #[.int .i64 1, .int .i64 5, .int .i64 2, .int .i64 7] 49)) fun e w' => ∃ T Q, e = .returned (.tuple #[.pointer (some ⟨T, 0, none⟩), .int .i64 0]) ∧ PT w' Q T twoA ∧ Below w.heap.size w w' ∧ ∀ i, Q i → w.heap.size ≤ i from
    rank_lit CT w twoA (by decide) (fun m hm => by simp [twoA] at hm; rcases hm with rfl | rfl <;> exact ⟨by decide, by decide⟩) (by decide))
  have K1 := hide (fun (w1 : World) (U Q : Nat → Prop) (T S : Nat) (h : Lin PK w w1 U Q T S sA0) => by
    have := h.lock C (t := 3) (m := 0) (by decide) (by decide) (by decide)
    rw [l1, l2, l3] at this
    exact this)
  have K2 := hide (fun (w1 : World) (U Q : Nat → Prop) (T S : Nat) (h : Lin PK w w1 U Q T S sA1) => by
    have := h.lock C (t := 4) (m := 0) (by decide) (by decide) (by decide)
    rw [l4, l5, l6] at this
    exact this)
  have K3 := hide (fun (w1 : World) (U Q : Nat → Prop) (T S : Nat) (h : Lin PK w w1 U Q T S sA2) => by
    have := h.unlock C (t := 3) (m := 0) (by decide) (by decide)
    rw [l7] at this
    exact this)
  have K4 := hide (fun (w1 : World) (U Q : Nat → Prop) (T S : Nat) (h : Lin PK w w1 U Q T S (unlockS sA2 3 0)) => by
    have := C.owner h.pk (m := 0) (by decide)
    rw [l9] at this
    exact this)
  have L8 := hide l8
  clear l1 l2 l3 l4 l5 l6 l7 l8 l9
  go_enter Try.func8, Try.ntmps8
  go_wp2_with (first
    | (go_at_call 9; refine NW.out.mono ?_; rintro e w1 ⟨T, Q, rfl, t1, b1, q1⟩; have T1 := hide t1; have B1 := hide b1; have Q1 := hide q1; clear t1 b1 q1)
    | (go_at_call 10; refine (lin_new C T1.out B1.out Q1.out).mono ?_; rintro e w2 ⟨S, U, rfl, h2⟩; have H2 := hide h2; clear h2)
    | (go_at_call 12; with_reducible refine (K1.out _ _ _ _ _ H2.out).mono ?_; rintro e w3 ⟨U3, rfl, h3, _, _⟩; have H3 := hide h3; clear h3)
    | (go_at_call 12; with_reducible refine (K2.out _ _ _ _ _ H3.out).mono ?_; rintro e w4 ⟨U4, rfl, h4, _, _⟩; have H4 := hide h4; clear h4)
    | (go_at_call 13; refine (K3.out _ _ _ _ _ H4.out).mono ?_; rintro e w5 ⟨v, R, U5, rfl, hr, h5, _, _⟩; obtain rfl := rises_one hr.1 hr.2.1 L8.out; obtain ⟨va, vc, rfl⟩ := own_sliceI hr.2.2.1; have H5 := hide h5; have HR := hide hr; clear h5 hr)
    | (go_at_call 24; have b6 : Below w5.heap.size w5 (w5.alloc (.cells #[.int .i64 4] 3)) := (Below.refl _ _).alloc (Nat.le_refl _) _; refine (same_any va (some ⟨w5.heap.size, 0, none⟩) 1 vc 1 [4] _ ((own_intsI HR.out.2.2.1 rfl).below b6) (ints_cell1 _ _ _ _ _ rfl) (by omega)).mono ?_; rintro e w7 ⟨rfl, b7⟩; have H7 := hide (H5.out.below C (b6.trans (b7.mono b6.size))); clear b6 b7)
    | (go_at_call 17; refine (K4.out _ _ _ _ _ H7.out).mono ?_; rintro e w8 ⟨rfl, b8⟩; have H8 := hide (H7.out.below C b8); clear b8)
    | (refine wpList_build rfl 49 _ rfl (by kernel_rfl) ?_))
  go_ret
  exact ⟨rfl, H8.out.bel⟩
set_option maxHeartbeats 8000000 in
theorem walk_locksNoneC (CT : PTable PT) (C : PLocks PT PK) (Z : NilLocks) (w : World) (d t m n : Int) : Calls Try.prog 6 #[.agg #[.int .i64 d, .int .i64 t, .int .i64 m, .int .i64 n]] w fun e w' => e = .returned (.bool true) ∧ Below w.heap.size w w' := by
  have X0 := hide (heap_alloc_new w (.cells #[.int .i64 d, .int .i64 t, .int .i64 m, .int .i64 n] 32))
  have CC := hide (fun (W : World) (b : Below (w.alloc (.cells #[.int .i64 d, .int .i64 t, .int .i64 m, .int .i64 n] 32)).heap.size (w.alloc (.cells #[.int .i64 d, .int .i64 t, .int .i64 m, .int .i64 n] 32)) W) =>
    show W.cell? ⟨w.heap.size, 1, none⟩ = some (.int .i64 t) ∧ W.cell? ⟨w.heap.size, 2, none⟩ = some (.int .i64 m) ∧ W.cell? ⟨w.heap.size, 3, none⟩ = some (.int .i64 n) from by
      have e := (b.block w.heap.size (by simp)).trans X0.out
      refine ⟨?_, ?_, ?_⟩ <;> (rw [cell_of_row _ _ _ _ _ _ e]; rfl))
  clear X0
  obtain ⟨w1, hw1⟩ : ∃ w1, w1 = w.alloc (.cells #[.int .i64 d, .int .i64 t, .int .i64 m, .int .i64 n] 32) := ⟨_, rfl⟩
  rw [← hw1] at CC
  have B0 := hide (show Below w.heap.size w w1 from by rw [hw1]; exact (Below.refl _ _).alloc (Nat.le_refl _) _)
  have HW := hide hw1
  clear hw1
  go_enter Try.func6, Try.ntmps6
  go_upto_region 1 with fail
  rw [← HW.out]
  have B1 := hide (Below.refl w1.heap.size w1)
  obtain ⟨X, hX⟩ : ∃ X, X = w.heap.size := ⟨_, rfl⟩
  rw [← hX] at CC ⊢
  clear hX
  obtain ⟨c1, c2, c3⟩ := CC.out w1 B1.out
  go_wp2_with (first
    | (go_at_call 12; refine (Z.lock _ _ _).mono ?_; rintro e w2 ⟨rfl, b2⟩; have B2 := hide b2; clear b2 c1 c2 c3; obtain ⟨c1, c2, c3⟩ := CC.out w2 B2.out)
    | (go_at_call 13; refine (Z.unlock _ _ _).mono ?_; rintro e w3 ⟨a3, k3, rfl, b3⟩; have B3 := hide (B2.out.trans (b3.mono B2.out.size)); clear b3 c1 c2 c3; obtain ⟨c1, c2, c3⟩ := CC.out w3 B3.out)
    | (go_at_call 21; refine (Z.run _ _ _).mono ?_; rintro e w4 ⟨rfl, b4⟩; have B4 := hide (B3.out.trans (b4.mono B3.out.size)); clear b4 c1 c2 c3; obtain ⟨c1, c2, c3⟩ := CC.out w4 B4.out)
    | (go_at_call 14; refine (Z.leave _ _).mono ?_; rintro e w5 ⟨a5, k5, rfl, b5⟩; have B5 := hide (B4.out.trans (b5.mono B4.out.size)); clear b5 c1 c2 c3; obtain ⟨c1, c2, c3⟩ := CC.out w5 B5.out)
    | (go_at_call 23; refine (Z.over _ _ _).mono ?_; rintro e w6 ⟨rfl, b6⟩; have B6 := hide (B5.out.trans (b6.mono B5.out.size)); clear b6 c1 c2 c3; obtain ⟨c1, c2, c3⟩ := CC.out w6 B6.out)
    | (go_at_call 15; refine (Z.held _ _).mono ?_; rintro e w7 ⟨a7, k7, rfl, b7⟩; have B7 := hide (B6.out.trans (b7.mono B6.out.size)); clear b7 c1 c2 c3; obtain ⟨c1, c2, c3⟩ := CC.out w7 B7.out)
    | (go_at_call 17; refine (Z.owner _ _).mono ?_; rintro e w8 ⟨rfl, b8⟩; have B8 := hide (B7.out.trans (b8.mono B7.out.size)); clear b8 c1 c2 c3; obtain ⟨c1, c2, c3⟩ := CC.out w8 B8.out)
    | (go_at_call 19; refine (Z.owners _).mono ?_; rintro e w9 ⟨a9, k9, rfl, b9⟩; have B9 := hide (B8.out.trans (b9.mono B8.out.size)); clear b9 c1 c2 c3; obtain ⟨c1, c2, c3⟩ := CC.out w9 B9.out)
    | (go_at_call 16; refine (Z.waits _ _).mono ?_; rintro e w10 ⟨rfl, b10⟩; have B10 := hide (B9.out.trans (b10.mono B9.out.size)); clear b10 c1 c2 c3)
    | (go_at_call 8; refine (lkawake_any CT C _).mono ?_; rintro e w11 ⟨rfl, b11⟩; have B11 := hide (B10.out.trans (b11.mono B10.out.size)); clear b11))
  go_ret
  exact ⟨rfl, B0.out.trans (B11.out.mono B0.out.size)⟩
end
end Go.Proofs.Yteeofpjfgjhemaa
