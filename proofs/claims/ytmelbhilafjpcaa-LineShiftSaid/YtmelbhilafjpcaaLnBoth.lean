/-
  Contracts of the program's line, its memory left open (PLine, NilLine); awake of stage 14; LineNone, LineOnce.
-/
import Derived.Test.YtmelbhilafjpcaaLnPlain
import Derived.Test.YtmelbhilafjpcaaPairs
import Derived.Test.YtmelbhilafjpcaaLow
import Derived.Deep.RegionHeld3
import Derived.Deep.QuietTactic
import Derived.BigQuiet
import Derived.Deep.DeepCutAuto
import Derived.Deep.CutBlock
import Derived.Deep.RegionLaw
namespace Go.Proofs.Ytmelbhilafjpcaa
open Go.ChangeShapes Go.WideShapes Go.ChangeAt Go.RowKit
set_option linter.unusedVariables false
set_option linter.unusedSimpArgs false
/-- The program's line. -/
structure PLine (PL : Rel Ls) : Prop where
  ok : Keeps PL
  new : ∀ (w : World) {g : Int}, 1 ≤ g → g ≤ 1000 → Calls Try.prog 9 #[.int .i64 g] w fun e w' => ∃ S U, e = .returned (.tuple #[.pointer (some ⟨S, 0, none⟩), .int .i64 0]) ∧ PL w' U S (newL g) ∧ Below w.heap.size w w' ∧ ∀ i, U i → w.heap.size ≤ i
  bad : ∀ (w : World) {g : Int}, (Lit.int .i64 g).wf = true → ¬ (1 ≤ g ∧ g ≤ 1000) → Calls Try.prog 9 #[.int .i64 g] w fun e w' => e = .returned (.tuple #[.pointer none, .int .i64 2]) ∧ Below w.heap.size w w'
  arrive : ∀ {w : World} {U : Nat → Prop} {S : Nat} {s : Ls}, PL w U S s → ∀ {now : Int}, (Lit.int .i64 now).wf = true →
    Calls Try.prog 12 #[.pointer (some ⟨S, 0, none⟩), .int .i64 now] w (SideO (fun w' U' => PL w' U' S (arrS s now)) U w (.bool (arrB s now)))
  tick : ∀ {w : World} {U : Nat → Prop} {S : Nat} {s : Ls}, PL w U S s → ∀ {now : Int}, (Lit.int .i64 now).wf = true →
    Calls Try.prog 14 #[.pointer (some ⟨S, 0, none⟩), .int .i64 now] w (SideO (fun w' U' => PL w' U' S (tckS s now)) U w (.bool (tckB s now)))
  take : ∀ {w : World} {U : Nat → Prop} {S : Nat} {s : Ls}, PL w U S s →
    Calls Try.prog 16 #[.pointer (some ⟨S, 0, none⟩)] w (SideO (fun w' U' => PL w' U' S (tkS s)) U w (.tuple #[.int .i64 (atL s), .bool s.pend]))
  pending : ∀ {w : World} {U : Nat → Prop} {S : Nat} {s : Ls}, PL w U S s →
    Calls Try.prog 18 #[.pointer (some ⟨S, 0, none⟩)] w fun e w' => e = .returned (.tuple #[.int .i64 (atL s), .bool s.pend]) ∧ Below w.heap.size w w'
  masked : ∀ {w : World} {U : Nat → Prop} {S : Nat} {s : Ls}, PL w U S s →
    Calls Try.prog 19 #[.pointer (some ⟨S, 0, none⟩)] w fun e w' => e = .returned (.bool s.kept) ∧ Below w.heap.size w w'
  next : ∀ {w : World} {U : Nat → Prop} {S : Nat} {s : Ls}, PL w U S s →
    Calls Try.prog 20 #[.pointer (some ⟨S, 0, none⟩)] w fun e w' => e = .returned (.int .i64 s.next) ∧ Below w.heap.size w w'
/-- Of no line. -/
structure NilLine : Prop where
  arrive : ∀ (w : World) (now : Int), Calls Try.prog 12 #[.pointer none, .int .i64 now] w fun e w' => e = .returned (.bool false) ∧ Below w.heap.size w w'
  tick : ∀ (w : World) (now : Int), Calls Try.prog 14 #[.pointer none, .int .i64 now] w fun e w' => e = .returned (.bool false) ∧ Below w.heap.size w w'
  take : ∀ (w : World), Calls Try.prog 16 #[.pointer none] w fun e w' => e = .returned (.tuple #[.int .i64 0, .bool false]) ∧ Below w.heap.size w w'
  pending : ∀ (w : World), Calls Try.prog 18 #[.pointer none] w fun e w' => e = .returned (.tuple #[.int .i64 0, .bool false]) ∧ Below w.heap.size w w'
  masked : ∀ (w : World), Calls Try.prog 19 #[.pointer none] w fun e w' => e = .returned (.bool false) ∧ Below w.heap.size w w'
  next : ∀ (w : World), Calls Try.prog 20 #[.pointer none] w fun e w' => e = .returned (.int .i64 0) ∧ Below w.heap.size w w'
section
variable {PL : Rel Ls}
set_option maxHeartbeats 8000000 in
theorem lnawake_any (C : PLine PL) (w : World) : Calls Try.prog 8 #[] w fun e w' => e = .returned (.bool true) ∧ Below w.heap.size w w' := by
  have e1 : arrS (newL 5) 0 = ⟨5, 5, 0, true, false⟩ := by rfl
  have e2 : arrS ⟨5, 5, 0, true, false⟩ 2 = ⟨5, 5, 0, true, true⟩ := by rfl
  have e3 : tkS ⟨5, 5, 0, true, true⟩ = ⟨5, 5, 0, false, true⟩ := by rfl
  have e4 : tckS ⟨5, 5, 0, false, true⟩ 4 = ⟨5, 5, 0, false, true⟩ := by rfl
  have e5 : tckS ⟨5, 5, 0, false, true⟩ 5 = ⟨5, 10, 5, true, false⟩ := by rfl
  have b1 : arrB (newL 5) 0 = true := by rfl
  have b2 : arrB ⟨5, 5, 0, true, false⟩ 2 = false := by rfl
  have b4 : tckB ⟨5, 5, 0, false, true⟩ 4 = false := by rfl
  have b5 : tckB ⟨5, 5, 0, false, true⟩ 5 = true := by rfl
  have E := hide (And.intro e1 (And.intro e2 (And.intro e3 (And.intro e4 e5))))
  have B := hide (And.intro b1 (And.intro b2 (And.intro b4 b5)))
  clear e1 e2 e3 e4 e5 b1 b2 b4 b5
  go_enter Try.func8, Try.ntmps8
  go_wp2_with fail
  go_at_call 9
  refine (C.new w (g := 5) (by omega) (by omega)).mono ?_
  rintro e w1 ⟨S, U, rfl, p1, b1, l1⟩
  have P1 := hide (OneO.first p1 b1 l1)
  clear p1 b1 l1
  go_wp2_with fail
  go_at_call 12
  refine (C.arrive P1.out.ps (now := 0) (by decide)).mono ?_
  intro en w2 hs
  obtain ⟨rfl, U2, q2, _⟩ := P1.out.side hs
  clear hs
  rw [E.out.1] at q2
  rw [B.out.1]
  have P2 := hide q2
  clear q2 P1
  go_wp2_with fail
  go_at_call 12
  refine (C.arrive P2.out.ps (now := 2) (by decide)).mono ?_
  intro en w3 hs
  obtain ⟨rfl, U3, q3, _⟩ := P2.out.side hs
  clear hs
  rw [E.out.2.1] at q3
  rw [B.out.2.1]
  have P3 := hide q3
  clear q3 P2
  go_wp2_with fail
  go_at_call 16
  refine (C.take P3.out.ps).mono ?_
  intro en w4 hs
  obtain ⟨rfl, U4, q4, _⟩ := P3.out.side hs
  clear hs
  rw [E.out.2.2.1] at q4
  have P4 := hide q4
  clear q4 P3
  rw [show atL ⟨5, 5, 0, true, true⟩ = 0 from rfl]
  dsimp only
  go_wp2_with fail
  go_at_call 14
  refine (C.tick P4.out.ps (now := 4) (by decide)).mono ?_
  intro en w5 hs
  obtain ⟨rfl, U5, q5, _⟩ := P4.out.side hs
  clear hs
  rw [E.out.2.2.2.1] at q5
  rw [B.out.2.2.1]
  have P5 := hide q5
  clear q5 P4
  go_wp2_with fail
  go_at_call 14
  refine (C.tick P5.out.ps (now := 5) (by decide)).mono ?_
  intro en w6 hs
  obtain ⟨rfl, U6, q6, _⟩ := P5.out.side hs
  clear hs
  rw [E.out.2.2.2.2] at q6
  rw [B.out.2.2.2]
  have P6 := hide q6
  clear q6 P5
  go_wp2_with fail
  go_at_call 20
  refine (C.next P6.out.ps).mono ?_
  rintro e w7 ⟨rfl, b7⟩
  have P7 := hide (P6.out.below C.ok b7).1
  clear b7 P6
  dsimp only
  go_wp2_with fail
  go_ret
  exact ⟨rfl, P7.out.bel⟩
set_option maxHeartbeats 8000000 in
theorem walk_lineNoneC (C : PLine PL) (Z : NilLine) (w : World) (now : Int) : Calls Try.prog 5 #[.int .i64 now] w fun e w' => e = .returned (.bool true) ∧ Below w.heap.size w w' := by
  have B0 := hide (Below.refl w.heap.size w)
  go_enter Try.func5, Try.ntmps5
  go_wp2_with (first
    | (go_at_call 18; refine (Z.pending _).mono ?_; rintro e w1 ⟨rfl, b1⟩; have B1 := hide (B0.out.trans (b1.mono B0.out.size)); clear b1)
    | (go_at_call 16; refine (Z.take _).mono ?_; rintro e w2 ⟨rfl, b2⟩; have B2 := hide (B1.out.trans (b2.mono B1.out.size)); clear b2)
    | (go_at_call 12; refine (Z.arrive _ _).mono ?_; rintro e w3 ⟨rfl, b3⟩; have B3 := hide (B2.out.trans (b3.mono B2.out.size)); clear b3)
    | (go_at_call 14; refine (Z.tick _ _).mono ?_; rintro e w4 ⟨rfl, b4⟩; have B4 := hide (B3.out.trans (b4.mono B3.out.size)); clear b4)
    | (go_at_call 19; refine (Z.masked _).mono ?_; rintro e w5 ⟨rfl, b5⟩; have B5 := hide (B4.out.trans (b5.mono B4.out.size)); clear b5)
    | (go_at_call 20; refine (Z.next _).mono ?_; rintro e w6 ⟨rfl, b6⟩; have B6 := hide (B5.out.trans (b6.mono B5.out.size)); clear b6)
    | (go_at_call 8; refine (lnawake_any C _).mono ?_; rintro e w7 ⟨rfl, b7⟩; have B7 := hide (B6.out.trans (b7.mono B6.out.size)); clear b7))
  go_ret
  exact ⟨rfl, B7.out⟩
end
end Go.Proofs.Ytmelbhilafjpcaa
