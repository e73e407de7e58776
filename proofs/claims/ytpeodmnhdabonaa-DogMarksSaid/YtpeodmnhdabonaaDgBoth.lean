/-
  Contracts of the program's dog, its memory left open (PDog, NilDog); awake of stage 15; DogNone.
-/
import Derived.Test.YtpeodmnhdabonaaDgRef
namespace Go.Proofs.Ytpeodmnhdabonaa
open Go.ChangeShapes Go.WideShapes Go.ChangeAt Go.RowKit
set_option linter.unusedVariables false
set_option linter.unusedSimpArgs false
/-- The program's dog. -/
structure PDog (PD : Rel Dg) : Prop where
  ok : Keeps PD
  good : ∀ {w : World} {U : Nat → Prop} {S : Nat} {s : Dg}, PD w U S s → GoodD s
  new : ∀ (w : World) {g : Int}, 1 ≤ g → g ≤ 1099511627776 → Calls Try.prog 8 #[.int .i64 g] w fun e w' => ∃ S U, e = .returned (.tuple #[.pointer (some ⟨S, 0, none⟩), .int .i64 0]) ∧ PD w' U S (newD g) ∧ Below w.heap.size w w' ∧ ∀ i, U i → w.heap.size ≤ i
  bad : ∀ (w : World) {g : Int}, (Lit.int .i64 g).wf = true → ¬ (1 ≤ g ∧ g ≤ 1099511627776) → Calls Try.prog 8 #[.int .i64 g] w fun e w' => e = .returned (.tuple #[.pointer none, .int .i64 2]) ∧ Below w.heap.size w w'
  mark : ∀ {w : World} {U : Nat → Prop} {S : Nat} {s : Dg}, PD w U S s → ∀ {now : Int}, (Lit.int .i64 now).wf = true →
    Calls Try.prog 11 #[.pointer (some ⟨S, 0, none⟩), .int .i64 now] w (SideO (fun w' U' => PD w' U' S (markS s now)) U w (.tuple #[]))
  tick : ∀ {w : World} {U : Nat → Prop} {S : Nat} {s : Dg}, PD w U S s → s.fired.length ≤ 1000000 → ∀ {now : Int}, (Lit.int .i64 now).wf = true →
    Calls Try.prog 13 #[.pointer (some ⟨S, 0, none⟩), .int .i64 now] w (SideO (fun w' U' => PD w' U' S (dtS s now)) U w (.bool (dtB s now)))
  last : ∀ {w : World} {U : Nat → Prop} {S : Nat} {s : Dg}, PD w U S s →
    Calls Try.prog 16 #[.pointer (some ⟨S, 0, none⟩)] w fun e w' => e = .returned (.int .i64 s.last) ∧ Below w.heap.size w w'
  fired : ∀ {w : World} {U : Nat → Prop} {S : Nat} {s : Dg}, PD w U S s → s.fired.length ≤ 1000000 →
    Calls Try.prog 15 #[.pointer (some ⟨S, 0, none⟩)] w fun e w' => ∃ v, e = .returned v ∧ w'.ownsRow w.heap.size 3 1 v s.fired.length (s.fired.map (Value.int .i64)) ∧ Below w.heap.size w w'
/-- Of no dog. -/
structure NilDog : Prop where
  mark : ∀ (w : World) (now : Int), Calls Try.prog 11 #[.pointer none, .int .i64 now] w fun e w' => e = .returned (.tuple #[]) ∧ Below w.heap.size w w'
  tick : ∀ (w : World) (now : Int), Calls Try.prog 13 #[.pointer none, .int .i64 now] w fun e w' => e = .returned (.bool false) ∧ Below w.heap.size w w'
  last : ∀ (w : World), Calls Try.prog 16 #[.pointer none] w fun e w' => e = .returned (.int .i64 0) ∧ Below w.heap.size w w'
  fired : ∀ (w : World), Calls Try.prog 15 #[.pointer none] w fun e w' => ∃ a c, e = .returned (.slice a 0 c) ∧ Below w.heap.size w w'
section
variable {PD : Rel Dg}
set_option maxHeartbeats 8000000 in
theorem dgawake_any (C : PDog PD) (w : World) : Calls Try.prog 7 #[] w fun e w' => e = .returned (.bool true) ∧ Below w.heap.size w w' := by
  have E := hide (show markS (newD 10) 4 = ⟨10, 4, []⟩ ∧ dtS ⟨10, 4, []⟩ 13 = ⟨10, 4, []⟩ ∧ dtS ⟨10, 4, []⟩ 14 = ⟨10, 14, [14]⟩ ∧ dtS ⟨10, 14, [14]⟩ 15 = ⟨10, 14, [14]⟩ from ⟨by rfl, by rfl, by rfl, by rfl⟩)
  have V := hide (show dtB ⟨10, 4, []⟩ 13 = false ∧ dtB ⟨10, 4, []⟩ 14 = true ∧ dtB ⟨10, 14, [14]⟩ 15 = false from ⟨by rfl, by rfl, by rfl⟩)
  go_enter Try.func7, Try.ntmps7
  go_wp2_with fail
  go_at_call 8
  refine (C.new w (g := 10) (by omega) (by omega)).mono ?_
  rintro e w1 ⟨S, U, rfl, p1, b1, l1⟩
  have P1 := hide (OneO.first p1 b1 l1)
  clear p1 b1 l1
  go_wp2_with fail
  go_at_call 11
  refine (C.mark P1.out.ps (now := 4) (by decide)).mono ?_
  intro en w2 hs
  obtain ⟨rfl, U2, q2, _⟩ := P1.out.side hs
  clear hs
  rw [E.out.1] at q2
  have P2 := hide q2
  clear q2 P1
  go_wp2_with fail
  go_at_call 13
  refine (C.tick P2.out.ps (by decide) (now := 13) (by decide)).mono ?_
  intro en w3 hs
  obtain ⟨rfl, U3, q3, _⟩ := P2.out.side hs
  clear hs
  rw [E.out.2.1] at q3
  rw [V.out.1]
  have P3 := hide q3
  clear q3 P2
  go_wp2_with fail
  go_at_call 13
  refine (C.tick P3.out.ps (by decide) (now := 14) (by decide)).mono ?_
  intro en w4 hs
  obtain ⟨rfl, U4, q4, _⟩ := P3.out.side hs
  clear hs
  rw [E.out.2.2.1] at q4
  rw [V.out.2.1]
  have P4 := hide q4
  clear q4 P3
  go_wp2_with fail
  go_at_call 13
  refine (C.tick P4.out.ps (by decide) (now := 15) (by decide)).mono ?_
  intro en w5 hs
  obtain ⟨rfl, U5, q5, _⟩ := P4.out.side hs
  clear hs
  rw [E.out.2.2.2] at q5
  rw [V.out.2.2]
  have P5 := hide q5
  clear q5 P4
  go_wp2_with fail
  go_at_call 15
  refine (C.fired P5.out.ps (by decide)).mono ?_
  rintro e w6 ⟨v, rfl, o6, b6⟩
  have P6 := hide (P5.out.below C.ok b6).1
  obtain ⟨va, vc, hv, hi, _⟩ := own_ints o6
  subst hv
  have HI := hide hi
  clear b6 o6 hi P5
  go_wp2_with (go_at_call 17; have b7 : Below w6.heap.size w6 (w6.alloc (.cells #[.int .i64 14] 3)) := (Below.refl _ _).alloc (Nat.le_refl _) _; refine (same_any va (some ⟨w6.heap.size, 0, none⟩) 1 vc 1 [14] _ (HI.out.below b7) (ints_cell1 _ _ _ _ _ rfl) (by omega)).mono ?_; rintro e w8 ⟨rfl, b8⟩; have P8 := hide (P6.out.below C.ok (b7.trans (b8.mono b7.size))).1)
  go_ret
  exact ⟨rfl, P8.out.bel⟩
set_option maxHeartbeats 8000000 in
theorem walk_dogNoneC (C : PDog PD) (Z : NilDog) (w : World) (now : Int) : Calls Try.prog 5 #[.int .i64 now] w fun e w' => e = .returned (.bool true) ∧ Below w.heap.size w w' := by
  have B0 := hide (Below.refl w.heap.size w)
  go_enter Try.func5, Try.ntmps5
  go_wp2_with (first
    | (go_at_call 11; refine (Z.mark _ _).mono ?_; rintro e w1 ⟨rfl, b1⟩; have B1 := hide (B0.out.trans (b1.mono B0.out.size)); clear b1)
    | (go_at_call 13; refine (Z.tick _ _).mono ?_; rintro e w2 ⟨rfl, b2⟩; have B2 := hide (B1.out.trans (b2.mono B1.out.size)); clear b2)
    | (go_at_call 16; refine (Z.last _).mono ?_; rintro e w3 ⟨rfl, b3⟩; have B3 := hide (B2.out.trans (b3.mono B2.out.size)); clear b3)
    | (go_at_call 15; refine (Z.fired _).mono ?_; rintro e w4 ⟨A4, c4, rfl, b4⟩; have B4 := hide (B3.out.trans (b4.mono B3.out.size)); clear b4)
    | (go_at_call 7; refine (dgawake_any C _).mono ?_; rintro e w7 ⟨rfl, b7⟩; have B7 := hide (B4.out.trans (b7.mono B4.out.size)); clear b7))
  go_ret
  exact ⟨rfl, B7.out⟩
end
end Go.Proofs.Ytpeodmnhdabonaa
