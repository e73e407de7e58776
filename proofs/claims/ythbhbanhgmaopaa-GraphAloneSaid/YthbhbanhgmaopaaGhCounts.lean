/-
  The law GraphCounts, over the contracts of the program's graph.
-/
import Derived.Test.YthbhbanhgmaopaaGhTells
namespace Go.Proofs.Ythbhbanhgmaopaa
open Go.ChangeShapes Go.WideShapes Go.ChangeAt Go.RowKit
set_option linter.unusedVariables false
/-- Priorities that may be read. -/
structure PriosIn (w : World) (a : Option Addr) (n c : Nat) (ps : List Pr) : Prop where
  rd : Reads 3 prVals w a n ps
  fit : ∀ x ∈ ps, PrFit w x
  nc : n ≤ c
  cm : c ≤ maxLen
  nil : a = none → c = 0
theorem PriosIn.below {w w' : World} {a : Option Addr} {n c : Nat} {ps : List Pr} (h : PriosIn w a n c ps) (b : Below w.heap.size w w') : PriosIn w' a n c ps := ⟨h.rd.below b, h.fit, h.nc, h.cm, h.nil⟩
theorem PriosIn.of {w : World} {a : Option Addr} {n c : Nat} {ps : List Pr} (h : Came 3 prVals PrFit w a n c ps) : PriosIn w a n c ps := ⟨h.reads, h.2.2.2.2.1, h.2.1, h.2.2.1, h.2.2.2.1⟩
theorem room_prios {w : World} {g n : Nat} {ps : List Pr} (h : RoomG 3 prVals mkPrios 39 w g n 3 ps) (hl : ps.length = n) (hn : n ≤ 25) (hf : ∀ x ∈ ps, PrFit w x) : PriosIn w (some ⟨g, 0, none⟩) n (n + 3) ps :=
  ⟨h.row prVals_len hl, hf, by omega, by unfold maxLen; omega, fun e => by cases e⟩
/-- The program's Effective, what is answered as a slice. -/
theorem PGraph.eff2 (C : PGraph) {w : World} {pa : Option Addr} {n cn : Nat} {ps : List Pr} {a : Option Addr} {p ca : Nat} {ws : List Int} {b : Option Addr} {q cb : Nat} {os : List Int} (h : PriosIn w pa n cn ps) (hn : n ≤ 25) (ha : ListIn w a p ca ws) (hb : ListIn w b q cb os) :
    Calls Try.prog 21 #[.slice pa n cn, .slice a p ca, .slice b q cb] w fun e w' => ∃ A c, e = .returned (.slice A n c) ∧ w'.ownsRow w.heap.size 39 3 (.slice A n c) n ((effG ws os ps).flatMap prVals) ∧ Reads 3 prVals w' A n (effG ws os ps) ∧ Below w.heap.size w w' := by
  refine (C.eff w pa n cn ps a p ca ws b q cb os h.rd h.fit h.nc h.cm h.nil hn ha hb).mono ?_
  rintro e w' ⟨v, rfl, o, b9⟩
  obtain ⟨A, c, rfl, rd, _⟩ := own_reads prVals_len (by omega) o
  exact ⟨A, c, rfl, o, rd, b9⟩
theorem reff2 {w : World} {pa : Option Addr} {n cn : Nat} {ps : List Pr} {a : Option Addr} {p ca : Nat} {ws : List Int} {b : Option Addr} {q cb : Nat} {os : List Int} (h : PriosIn w pa n cn ps) (hn : n ≤ 25) (ha : ListIn w a p ca ws) (hb : ListIn w b q cb os) :
    Calls Try.prog 23 #[.slice pa n cn, .slice a p ca, .slice b q cb] w fun e w' => ∃ A c, e = .returned (.slice A n c) ∧ Reads 3 prVals w' A n (effG ws os ps) ∧ Below w.heap.size w w' := by
  refine (reff_any pa n cn ps a p ca ws b q cb os w h.rd ha.ints hb.ints ha.max hb.max (by omega)).mono ?_
  rintro e w' ⟨v, rfl, o, b9⟩
  obtain ⟨A, c, rfl, rd, _⟩ := own_reads prVals_len (by omega) o
  exact ⟨A, c, rfl, rd, b9⟩
set_option maxRecDepth 10000 in
set_option maxHeartbeats 8000000 in
theorem walk_graphCountsC (C : PGraph) (w : World) (pa : Option Addr) (n cn : Nat) (ps : List Pr) (hin : Came 3 prVals PrFit w pa n cn ps) (a : Option Addr) (p ca : Nat) (ws : List Int) (hin1 : CameIn .i64 w a p ca ws) (b : Option Addr) (q cb : Nat) (os : List Int) (hin2 : CameIn .i64 w b q cb os) :
    Calls Try.prog 4 #[.slice pa n cn, .slice a p ca, .slice b q cb] w fun e w' => e = .returned (.bool true) ∧ Below w.heap.size w w' := by
  by_cases hg : 25 < p ∨ 25 < q ∨ 25 < (n : Int)
  · have G := hide (great_yes w a p ca b q cb (n : Int) (Nat.le_trans hin1.2.1 hin1.2.2.1) (Nat.le_trans hin2.2.1 hin2.2.2.1) hg)
    clear hin hin1 hin2 hg
    go_enter Try.func4, Try.ntmps4
    go_wp2_with (first
      | (go_at_call 8; refine G.out.mono ?_; rintro e w' ⟨rfl, rfl⟩)
      | (go_at_call 9; refine (ghawake_any C _).mono ?_; rintro e w2 ⟨rfl, b2⟩; have B2 := hide b2; clear b2))
    go_ret
    exact ⟨rfl, B2.out⟩
  have G := hide (great_no w a p ca b q cb (n : Int) hg)
  have LP := hide (PriosIn.of hin)
  have LA := hide (show ListIn w a p ca ws from ⟨hin1, by omega⟩)
  have LB := hide (show ListIn w b q cb os from ⟨hin2, by omega⟩)
  have N25 := hide (show n ≤ 25 from by omega)
  clear hin hin1 hin2 hg
  go_enter Try.func4, Try.ntmps4
  go_upto_region 4 with (first
    | (go_at_call 8; refine G.out.mono ?_; rintro e w' ⟨rfl, rfl⟩)
    | (go_at_call 20; refine (lendPrios_any pa n cn ps _ LP.out.rd LP.out.nil (by have := N25.out; omega)).mono ?_; rintro e w2 ⟨rfl, r2, b2⟩; have R2 := hide r2; have B2 := hide b2; clear r2 b2))
  obtain ⟨es, hes⟩ : ∃ es, es = effG ws os ps := ⟨_, rfl⟩
  have FP := hide (fun (W : World) (bw : Below w2.heap.size w2 W) => LP.out.below (B2.out.trans (bw.mono B2.out.size)))
  have FL := hide (fun (W : World) (bw : Below w2.heap.size w2 W) => (room_prios R2.out LP.out.rd.1 N25.out LP.out.fit).below bw)
  have FC := hide (fun (W : World) (bw : Below w2.heap.size w2 W) => LA.out.below (B2.out.trans (bw.mono B2.out.size)))
  have FD := hide (fun (W : World) (bw : Below w2.heap.size w2 W) => LB.out.below (B2.out.trans (bw.mono B2.out.size)))
  have KC := hide (fun (W : World) (bw : Below w2.heap.size w2 W) => C.eff2 (FL.out W bw) N25.out (FC.out W bw) (FD.out W bw))
  have KD := hide (fun (W : World) (bw : Below w2.heap.size w2 W) => C.eff2 (FP.out W bw) N25.out (FC.out W bw) (FD.out W bw))
  have RC := hide (fun (W : World) (bw : Below w2.heap.size w2 W) => reff2 (FP.out W bw) N25.out (FC.out W bw) (FD.out W bw))
  rw [← hes] at KC KD RC
  have SM := hide (fun (W : World) (A B : Option Addr) (c d : Nat) (i1 : Reads 3 prVals W A n es) (i2 : Reads 3 prVals W B n es) => samePrios_any A B n c d es W i1 i2 (by have := N25.out; omega))
  have K1 := hide (fun (W : World) (bw : Below w2.heap.size w2 W) => keptPrios_any _ _ n cn ps W (R2.out.below bw) (FP.out W bw).rd (by have := N25.out; omega))
  clear hes
  go_upto_region 6 with (first
    | (go_at_call 21; refine (KC.out _ (Below.refl _ _)).mono ?_; rintro e w3 ⟨a3, c3, rfl, o3, r3, b3⟩; have O3 := hide o3; have R3 := hide r3; have B3 := hide b3; clear o3 r3 b3)
    | (go_at_call 23; refine (RC.out _ B3.out).mono ?_; rintro e w4 ⟨a4, c4, rfl, r4, b4⟩; have R4 := hide r4; have B4 := hide (B3.out.trans (b4.mono B3.out.size)); have C4 := hide b4; clear r4 b4)
    | (go_at_call 22; refine (SM.out _ _ _ _ _ (R3.out.below C4.out) R4.out).mono ?_; rintro e w5 ⟨rfl, b5⟩; have B5 := hide (B4.out.trans (b5.mono B4.out.size)); have C5 := hide (C4.out.trans (b5.mono C4.out.size)); clear b5)
    | (go_at_call 24; refine (K1.out _ B5.out).mono ?_; rintro e w6 ⟨rfl, b6⟩; have B6 := hide (B5.out.trans (b6.mono B5.out.size)); have C6 := hide (C5.out.trans (b6.mono C5.out.size)); clear b6))
  have O6 := hide ((Touch.of_below (S := fun _ => False) C6.out).own O3.out (fun _ _ e => e))
  clear KC R4 R3
  go_upto_region 7 with (go_at_call 25; refine (overPrios_any _ n _ _ O6.out (by have := N25.out; omega)).mono ?_; rintro e w9 ⟨rfl, t9⟩; have B9 := hide (B6.out.trans (t9.below B6.out.size (fun i hi => (O6.out.lt i hi).1))); clear t9)
  go_wp2_with (first
    | (go_at_call 21; refine (KD.out _ B9.out).mono ?_; rintro e w10 ⟨a10, c10, rfl, o10, r10, b10⟩; have R10 := hide r10; have B10 := hide (B9.out.trans (b10.mono B9.out.size)); clear o10 r10 b10)
    | (go_at_call 23; refine (RC.out _ B10.out).mono ?_; rintro e w11 ⟨a11, c11, rfl, r11, b11⟩; have R11 := hide r11; have B11 := hide (B10.out.trans (b11.mono B10.out.size)); have J10 := hide (R10.out.below b11); clear r11 b11)
    | (go_at_call 22; refine (SM.out _ _ _ _ _ J10.out R11.out).mono ?_; rintro e w12 ⟨rfl, b12⟩; have B12 := hide (B11.out.trans (b12.mono B11.out.size)); clear b12)
    | (go_at_call 9; refine (ghawake_any C _).mono ?_; rintro e w15 ⟨rfl, b15⟩; have B15 := hide (B12.out.trans (b15.mono B12.out.size)); clear b15))
  go_ret
  exact ⟨rfl, B2.out.trans (B15.out.mono B2.out.size)⟩
end Go.Proofs.Ythbhbanhgmaopaa
