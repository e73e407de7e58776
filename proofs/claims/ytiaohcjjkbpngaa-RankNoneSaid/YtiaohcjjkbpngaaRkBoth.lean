/-
  Contracts of the program's rank (PRank, NilRank), its memory left open; awake of stage 10; the law RankNone.
-/
import Derived.Test.YtiaohcjjkbpngaaRkRefs
namespace Go.Proofs.Ytiaohcjjkbpngaa
open Go.ChangeShapes Go.WideShapes Go.ChangeAt Go.RowKit
set_option linter.unusedVariables false
/-- A list of numbers that is handed in. -/
structure NumsIn (w : World) (b : Option Addr) (p d : Nat) (hs : List Int) : Prop where
  ints : Ints .i64 w b p hs
  le : p ≤ d
  max : d ≤ maxLen
  nil : b = none → d = 0
  few : p ≤ 30
  wf : ∀ h ∈ hs, (Lit.int .i64 h).wf = true
structure PRank (PT : World → Nat → List Mu → Prop) : Prop where
  keep : ∀ {w w' : World} {S : Nat} {ms : List Mu}, PT w S ms → Below w.heap.size w w' → PT w' S ms
  newGood : ∀ (w : World) (a : Option Addr) (n c : Nat) (ms : List Mu), Reads 2 muVals w a n ms → (∀ m ∈ ms, MuWf w m) → n ≤ c → c ≤ maxLen → (a = none → c = 0) → n ≤ 30 → goodMu ms = true →
    Calls Try.prog 7 #[.slice a n c] w fun e w' => ∃ S, e = .returned (.tuple #[.pointer (some ⟨S, 0, none⟩), .int .i64 0]) ∧ PT w' S ms ∧ Below w.heap.size w w'
  newBad : ∀ (w : World) (a : Option Addr) (n c : Nat) (ms : List Mu), Reads 2 muVals w a n ms → (∀ m ∈ ms, MuWf w m) → n ≤ c → c ≤ maxLen → (a = none → c = 0) → n ≤ 30 → goodMu ms = false →
    Calls Try.prog 7 #[.slice a n c] w fun e w' => e = .returned (.tuple #[.pointer none, .int .i64 2]) ∧ Below w.heap.size w w'
  len : ∀ {w : World} {S : Nat} {ms : List Mu}, PT w S ms → Calls Try.prog 18 #[.pointer (some ⟨S, 0, none⟩)] w fun e w' => e = .returned (.int .i64 (ms.length : Nat)) ∧ Below w.heap.size w w'
  rank : ∀ {w : World} {S : Nat} {ms : List Mu}, PT w S ms → ∀ {m : Int}, (Lit.int .i64 m).wf = true → Calls Try.prog 19 #[.pointer (some ⟨S, 0, none⟩), .int .i64 m] w fun e w' => e = .returned (.int .i64 (rankMu ms m)) ∧ Below w.heap.size w w'
  limit : ∀ {w : World} {S : Nat} {ms : List Mu}, PT w S ms → ∀ {m : Int}, (Lit.int .i64 m).wf = true → Calls Try.prog 20 #[.pointer (some ⟨S, 0, none⟩), .int .i64 m] w fun e w' => e = .returned (.int .i64 (limMu ms m)) ∧ Below w.heap.size w w'
  may : ∀ {w : World} {S : Nat} {ms : List Mu}, PT w S ms → ∀ {b : Option Addr} {p d : Nat} {hs : List Int}, NumsIn w b p d hs → ∀ {m : Int}, (Lit.int .i64 m).wf = true →
    Calls Try.prog 14 #[.pointer (some ⟨S, 0, none⟩), .slice b p d, .int .i64 m] w fun e w' => e = .returned (.int .i64 (mayMu ms hs m)) ∧ Below w.heap.size w w'
  least : ∀ {w : World} {S : Nat} {ms : List Mu}, PT w S ms → ∀ {b : Option Addr} {p d : Nat} {us : List Int}, NumsIn w b p d us →
    Calls Try.prog 10 #[.pointer (some ⟨S, 0, none⟩), .slice b p d] w fun e w' => e = .returned (.tuple #[.int .i64 (leastMu ms us).1, .bool (leastMu ms us).2]) ∧ Below w.heap.size w w'
  sum : ∀ {w : World} {S : Nat} {ms : List Mu}, PT w S ms → ∀ {r : Int}, (Lit.int .i64 r).wf = true → Calls Try.prog 16 #[.pointer (some ⟨S, 0, none⟩), .int .i64 r] w fun e w' => e = .returned (.int .i64 (sumMu ms r)) ∧ Below w.heap.size w w'
structure NilRank : Prop where
  len : ∀ (w : World), Calls Try.prog 18 #[.pointer none] w fun e w' => e = .returned (.int .i64 0) ∧ Below w.heap.size w w'
  rank : ∀ (w : World) (m : Int), Calls Try.prog 19 #[.pointer none, .int .i64 m] w fun e w' => e = .returned (.int .i64 0) ∧ Below w.heap.size w w'
  limit : ∀ (w : World) (m : Int), Calls Try.prog 20 #[.pointer none, .int .i64 m] w fun e w' => e = .returned (.int .i64 0) ∧ Below w.heap.size w w'
  may : ∀ (w : World) (b : Option Addr) (p d : Nat) (hs : List Int) (m : Int), NumsIn w b p d hs → Calls Try.prog 14 #[.pointer none, .slice b p d, .int .i64 m] w fun e w' => e = .returned (.int .i64 1) ∧ Below w.heap.size w w'
  least : ∀ (w : World) (b : Option Addr) (p d : Nat) (hs : List Int), NumsIn w b p d hs → Calls Try.prog 10 #[.pointer none, .slice b p d] w fun e w' => e = .returned (.tuple #[.int .i64 0, .bool false]) ∧ Below w.heap.size w w'
  sum : ∀ (w : World) (r : Int), Calls Try.prog 16 #[.pointer none, .int .i64 r] w fun e w' => e = .returned (.int .i64 0) ∧ Below w.heap.size w w'
theorem NumsIn.below {w w' : World} {b : Option Addr} {p d : Nat} {hs : List Int} (h : NumsIn w b p d hs) (bw : Below w.heap.size w w') : NumsIn w' b p d hs := ⟨h.ints.below bw, h.le, h.max, h.nil, h.few, h.wf⟩
def three : List Mu := [⟨1, 5⟩, ⟨2, 7⟩, ⟨2, 9⟩]
theorem built_m1 : Try.prog.built 36 [(0, .int .i64 1), (1, .int .i64 5)] = some #[.int .i64 1, .int .i64 5] := by kernel_rfl
theorem built_m2 : Try.prog.built 36 [(0, .int .i64 2), (1, .int .i64 7)] = some #[.int .i64 2, .int .i64 7] := by kernel_rfl
theorem built_m3 : Try.prog.built 36 [(0, .int .i64 2), (1, .int .i64 9)] = some #[.int .i64 2, .int .i64 9] := by kernel_rfl
attribute [local go_sem] built_m1 built_m2 built_m3
section
variable {PT : World → Nat → List Mu → Prop}
theorem nums_one (w : World) (x : Int) (hx : (Lit.int .i64 x).wf = true) (n : Nat) (hn : n = w.heap.size) : NumsIn (w.alloc (.cells #[.int .i64 x] 3)) (some ⟨n, 0, none⟩) 1 1 [x] :=
  ⟨ints_cell1 _ _ _ _ _ hn, Nat.le_refl _, by unfold maxLen; omega, (fun e => by cases e), by omega, fun h hh => by rw [List.mem_singleton] at hh; rw [hh]; exact hx⟩
set_option maxRecDepth 10000 in
set_option maxHeartbeats 8000000 in
theorem rkawake_any (C : PRank PT) (w : World) : Calls Try.prog 6 #[] w fun e w' => e = .returned (.bool true) ∧ Below w.heap.size w w' := by
  have e1 : mayMu three [0] 2 = 0 := by decide
  have e2 : mayMu three [1] 2 = 7 := by decide
  have e3 : sumMu three 2 = 16 := by decide
  have NW := hide (fun (W : World) => show Calls Try.prog 7 #[.slice (some ⟨W.heap.size, 0, none⟩) 3 3] (W.alloc (.cells #[.int .i64 1, .int .i64 5, .int .i64 2, .int .i64 7, .int .i64 2, .int .i64 9] 36)) fun e w' => ∃ S, e = .returned (.tuple #[.pointer (some ⟨S, 0, none⟩), .int .i64 0]) ∧ PT w' S three ∧ Below (W.alloc (.cells #[.int .i64 1, .int .i64 5, .int .i64 2, .int .i64 7, .int .i64 2, .int .i64 9] 36)).heap.size (W.alloc (.cells #[.int .i64 1, .int .i64 5, .int .i64 2, .int .i64 7, .int .i64 2, .int .i64 9] 36)) w' from by
    refine C.newGood _ _ 3 3 three ?_ ?_ (Nat.le_refl _) (by unfold maxLen; omega) (fun e => by cases e) (by omega) (by decide)
    · refine ⟨rfl, fun _ => ⟨_, 0, rfl, fun i x hx j u hu => ?_⟩⟩
      have h1 := flat_at (vals := muVals) muVals_len hx (show j < 2 from by have := (List.getElem?_eq_some_iff.1 hu).1; rw [muVals_len] at this; exact this)
      rw [hu] at h1
      have h2 := cells_new W (three.flatMap muVals) 36 _ rfl _ u h1
      rw [addr_add, Nat.zero_add] at h2
      rw [Nat.zero_add]
      exact h2
    · intro m hm
      simp [three] at hm
      rcases hm with rfl | rfl | rfl <;> exact ⟨by decide, by decide⟩)
  have M1 := hide (fun (W : World) (S : Nat) (h : PT W S three) (n : Nat) (hn : n = W.heap.size) => show Calls Try.prog 14 #[.pointer (some ⟨S, 0, none⟩), .slice (some ⟨n, 0, none⟩) 1 1, .int .i64 2] (W.alloc (.cells #[.int .i64 0] 3)) fun e w' => e = .returned (.int .i64 0) ∧ Below (W.alloc (.cells #[.int .i64 0] 3)).heap.size (W.alloc (.cells #[.int .i64 0] 3)) w' from by
    have := C.may (C.keep h ((Below.refl W.heap.size W).alloc (Nat.le_refl _) (.cells #[.int .i64 0] 3))) (nums_one W 0 (by decide) n hn) (m := 2) (by decide)
    rw [e1] at this; exact this)
  have M2 := hide (fun (W : World) (S : Nat) (h : PT W S three) (n : Nat) (hn : n = W.heap.size) => show Calls Try.prog 14 #[.pointer (some ⟨S, 0, none⟩), .slice (some ⟨n, 0, none⟩) 1 1, .int .i64 2] (W.alloc (.cells #[.int .i64 1] 3)) fun e w' => e = .returned (.int .i64 7) ∧ Below (W.alloc (.cells #[.int .i64 1] 3)).heap.size (W.alloc (.cells #[.int .i64 1] 3)) w' from by
    have := C.may (C.keep h ((Below.refl W.heap.size W).alloc (Nat.le_refl _) (.cells #[.int .i64 1] 3))) (nums_one W 1 (by decide) n hn) (m := 2) (by decide)
    rw [e2] at this; exact this)
  have SM := hide (fun (W : World) (S : Nat) (h : PT W S three) => show Calls Try.prog 16 #[.pointer (some ⟨S, 0, none⟩), .int .i64 2] W fun e w' => e = .returned (.int .i64 16) ∧ Below W.heap.size W w' from by
    have := C.sum h (r := 2) (by decide)
    rw [e3] at this; exact this)
  clear e1 e2 e3
  go_enter Try.func6, Try.ntmps6
  go_wp2_with (first
    | (go_at_call 7; refine (NW.out w).mono ?_; rintro e w1 ⟨S, rfl, t1, b1⟩; have T1 := hide t1; have B1 := hide (below_one (b1.mono (Nat.le_refl _)) (by simp)); clear t1 b1)
    | (go_at_call 14; with_reducible refine (M1.out _ S T1.out _ (by simp)).mono ?_; rintro e w2 ⟨rfl, b2⟩; have c2 := below_one (b2.mono (Nat.le_refl _)) (by simp); have B2 := hide (B1.out.trans (c2.mono B1.out.size)); have T2 := hide (C.keep T1.out c2); clear b2 c2)
    | (go_at_call 14; with_reducible refine (M2.out _ S T2.out _ (by simp)).mono ?_; rintro e w3 ⟨rfl, b3⟩; have c3 := below_one (b3.mono (Nat.le_refl _)) (by simp); have B3 := hide (B2.out.trans (c3.mono B2.out.size)); have T3 := hide (C.keep T2.out c3); clear b3 c3)
    | (go_at_call 16; refine (SM.out _ S T3.out).mono ?_; rintro e w4 ⟨rfl, b4⟩; have B4 := hide (B3.out.trans (b4.mono B3.out.size)); clear b4)
    | (refine wpList_build rfl 36 _ rfl (by kernel_rfl) ?_))
  go_ret
  exact ⟨rfl, B4.out⟩
set_option maxHeartbeats 8000000 in
theorem walk_rankNoneC (C : PRank PT) (Z : NilRank) (w : World) (b : Option Addr) (p d : Nat) (hs : List Int) (hin : CameIn .i64 w b p d hs) (m : Int) : Calls Try.prog 5 #[.slice b p d, .int .i64 m] w fun e w' => e = .returned (.bool true) ∧ Below w.heap.size w w' := by
  obtain ⟨hi, hpd, hdm, hnil, hwf⟩ := hin
  have p63 : (p : Int) ≤ 9223372036854775807 := by unfold maxLen at hdm; omega
  by_cases h30 : (30 : Int) < (p : Int)
  · go_enter Try.func5, Try.ntmps5
    go_wp2_with (go_at_call 6; refine (rkawake_any C _).mono ?_; rintro e w2 ⟨rfl, b2⟩)
    go_ret
    exact ⟨rfl, b2⟩
  · have NI := hide (fun (W : World) (bw : Below w.heap.size w W) => (show NumsIn w b p d hs from ⟨hi, hpd, hdm, hnil, by omega, hwf⟩).below bw)
    clear hi hpd hdm hnil hwf
    go_enter Try.func5, Try.ntmps5
    go_wp2_with (first
      | (go_at_call 10; refine (Z.least _ b p d hs (NI.out _ (Below.refl _ _))).mono ?_; rintro e w1 ⟨rfl, b1⟩; have B1 := hide b1; clear b1)
      | (go_at_call 14; refine (Z.may _ b p d hs m (NI.out _ B1.out)).mono ?_; rintro e w2 ⟨rfl, b2⟩; have B2 := hide (B1.out.trans (b2.mono B1.out.size)); clear b2)
      | (go_at_call 18; refine (Z.len _).mono ?_; rintro e w3 ⟨rfl, b3⟩; have B3 := hide (B2.out.trans (b3.mono B2.out.size)); clear b3)
      | (go_at_call 19; refine (Z.rank _ _).mono ?_; rintro e w4 ⟨rfl, b4⟩; have B4 := hide (B3.out.trans (b4.mono B3.out.size)); clear b4)
      | (go_at_call 20; refine (Z.limit _ _).mono ?_; rintro e w5 ⟨rfl, b5⟩; have B5 := hide (B4.out.trans (b5.mono B4.out.size)); clear b5)
      | (go_at_call 16; refine (Z.sum _ _).mono ?_; rintro e w6 ⟨rfl, b6⟩; have B6 := hide (B5.out.trans (b6.mono B5.out.size)); clear b6)
      | (go_at_call 6; refine (rkawake_any C _).mono ?_; rintro e w7 ⟨rfl, b7⟩; have B7 := hide (B6.out.trans (b7.mono B6.out.size)); clear b7))
    go_ret
    exact ⟨rfl, B7.out⟩
end
end Go.Proofs.Ytiaohcjjkbpngaa
