/-
  The law GraphTells, over the contracts of the program's graph.
-/
import Derived.Test.YthbhbanhgmaopaaGhAwake
namespace Go.Proofs.Ythbhbanhgmaopaa
open Go.ChangeShapes Go.WideShapes Go.ChangeAt Go.RowKit
set_option linter.unusedVariables false
theorem great_yes (w : World) (a : Option Addr) (p ca : Nat) (b : Option Addr) (q cb : Nat) (n : Int) (hp : p ≤ maxLen) (hq : q ≤ maxLen) (h : 25 < p ∨ 25 < q ∨ 25 < n) : Calls Try.prog 8 #[.slice a p ca, .slice b q cb, .int .i64 n] w fun e w' => e = .returned (.bool true) ∧ w = w' := by
  by_cases h1 : (25 : Int) < (p : Int)
  · go_enter Try.func8, Try.ntmps8
    go_wp2_with fail
    go_ret
    exact ⟨rfl, rfl⟩
  · by_cases h2 : (25 : Int) < (q : Int)
    · go_enter Try.func8, Try.ntmps8
      go_wp2_with fail
      go_ret
      exact ⟨rfl, rfl⟩
    · have h3 : (25 : Int) < n := by omega
      clear h hp hq
      go_enter Try.func8, Try.ntmps8
      go_wp2_with fail
      go_ret
      exact ⟨rfl, rfl⟩
theorem great_no (w : World) (a : Option Addr) (p ca : Nat) (b : Option Addr) (q cb : Nat) (n : Int) (h : ¬ (25 < p ∨ 25 < q ∨ 25 < n)) : Calls Try.prog 8 #[.slice a p ca, .slice b q cb, .int .i64 n] w fun e w' => e = .returned (.bool false) ∧ w = w' := by
  have h1 : ¬ (25 : Int) < (p : Int) := by omega
  have h2 : ¬ (25 : Int) < (q : Int) := by omega
  have h3 : ¬ (25 : Int) < n := by omega
  clear h
  go_enter Try.func8, Try.ntmps8
  go_wp2_with fail
  go_ret
  exact ⟨rfl, rfl⟩
theorem room_list {w : World} {g n : Nat} {xs : List Int} (h : Room w g 3 n 3 (xs.map (Value.int .i64)) (.int .i64 (-777))) (hl : xs.length = n) (hn : n ≤ 25) (hw : ∀ x ∈ xs, (Lit.int .i64 x).wf = true) : ListIn w (some ⟨g, 0, none⟩) n (n + 3) xs :=
  ⟨⟨room_ints h hl, by omega, by unfold maxLen; omega, (fun e => by cases e), hw⟩, hn⟩
theorem chainG_short (ws os : List Int) (n i : Int) (hn : n ≤ 25) : (chainG ws os n i).length ≤ 26 := by
  by_cases h : 0 ≤ n
  · obtain ⟨m, rfl⟩ : ∃ m : Nat, n = (m : Int) := ⟨n.toNat, by omega⟩
    have := chainG_few ws os m i
    omega
  · rw [chainG_neg (by omega)]; simp
set_option maxRecDepth 10000 in
set_option maxHeartbeats 8000000 in
theorem walk_graphTellsC (C : PGraph) (w : World) (a : Option Addr) (p ca : Nat) (ws : List Int) (hin : CameIn .i64 w a p ca ws) (b : Option Addr) (q cb : Nat) (os : List Int) (hin2 : CameIn .i64 w b q cb os) (n : Int) (hn : (Lit.int .i64 n).wf = true) (i : Int) (hi : (Lit.int .i64 i).wf = true) :
    Calls Try.prog 3 #[.slice a p ca, .slice b q cb, .int .i64 n, .int .i64 i] w fun e w' => e = .returned (.bool true) ∧ Below w.heap.size w w' := by
  by_cases hg : 25 < p ∨ 25 < q ∨ 25 < n
  · have G := hide (great_yes w a p ca b q cb n (Nat.le_trans hin.2.1 hin.2.2.1) (Nat.le_trans hin2.2.1 hin2.2.2.1) hg)
    clear hin hin2 hg hn hi
    go_enter Try.func3, Try.ntmps3
    go_wp2_with (first
      | (go_at_call 8; refine G.out.mono ?_; rintro e w' ⟨rfl, rfl⟩)
      | (go_at_call 9; refine (ghawake_any C _).mono ?_; rintro e w2 ⟨rfl, b2⟩; have B2 := hide b2; clear b2))
    go_ret
    exact ⟨rfl, B2.out⟩
  have G := hide (great_no w a p ca b q cb n hg)
  have LA := hide (show ListIn w a p ca ws from ⟨hin, by omega⟩)
  have LB := hide (show ListIn w b q cb os from ⟨hin2, by omega⟩)
  have hn25 : n ≤ 25 := by omega
  have N25 := hide hn25
  have HN := hide hn
  have HI := hide hi
  have P25 := hide (show p ≤ 25 ∧ q ≤ 25 from by omega)
  have CL := hide (chainG_short ws os n i hn25)
  clear hin hin2 hg hn hi hn25
  go_enter Try.func3, Try.ntmps3
  go_upto_region 4 with (first
    | (go_at_call 8; refine G.out.mono ?_; rintro e w' ⟨rfl, rfl⟩)
    | (go_at_call 10; have b1 := B1.out; refine (lend_any b q cb os _ (LB.out.ints.below b1) LB.out.1.2.2.2.1 (by have := P25.out; omega)).mono ?_; rintro e w2 ⟨rfl, r2, b2⟩; have R2 := hide r2; have R12 := hide (room_below R1.out b2); have B2 := hide (b1.trans (b2.mono b1.size)); clear r2 b2 b1)
    | (go_at_call 10; refine (lend_any a p ca ws _ LA.out.ints LA.out.1.2.2.2.1 (by have := P25.out; omega)).mono ?_; rintro e w1 ⟨rfl, r1, b1⟩; have R1 := hide r1; have B1 := hide b1; clear r1 b1))
  obtain ⟨ch, hch⟩ : ∃ ch, ch = chainG ws os n i := ⟨_, rfl⟩
  obtain ⟨m, hm⟩ : ∃ m, m = ch.length := ⟨_, rfl⟩
  rw [← hch, ← hm] at CL
  obtain ⟨x, hx⟩ : ∃ x, x = onG ws os n i := ⟨_, rfl⟩
  obtain ⟨y, hy⟩ : ∃ y, y = acyZ ws os n := ⟨_, rfl⟩
  have FA := hide (fun (W : World) (bw : Below w2.heap.size w2 W) => (room_list R12.out LA.out.ints.1 LA.out.2 LA.out.1.2.2.2.2).below bw)
  have FB := hide (fun (W : World) (bw : Below w2.heap.size w2 W) => (room_list R2.out LB.out.ints.1 LB.out.2 LB.out.1.2.2.2.2).below bw)
  have FC := hide (fun (W : World) (bw : Below w2.heap.size w2 W) => LA.out.below (B2.out.trans (bw.mono B2.out.size)))
  have FD := hide (fun (W : World) (bw : Below w2.heap.size w2 W) => LB.out.below (B2.out.trans (bw.mono B2.out.size)))
  have KC := hide (fun (W : World) (bw : Below w2.heap.size w2 W) => show Calls Try.prog 11 #[.slice (some ⟨w.heap.size, 0, none⟩) p (p + 3), .slice (some ⟨w1.heap.size, 0, none⟩) q (q + 3), .int .i64 n, .int .i64 i] W fun e w' => ∃ A c, e = .returned (.slice A m c) ∧ w'.ownsRow W.heap.size 3 1 (.slice A m c) m (ch.map (Value.int .i64)) ∧ Below W.heap.size W w' from by
    refine (C.chain W _ _ _ ws _ _ _ os n i (FA.out W bw) (FB.out W bw) HN.out N25.out HI.out).mono ?_
    rintro e w' ⟨v, rfl, o, b9⟩
    rw [← hch, ← hm] at o
    obtain ⟨A, c, rfl⟩ := own_sliceI o
    exact ⟨A, c, rfl, o, b9⟩)
  have KD := hide (fun (W : World) (bw : Below w2.heap.size w2 W) => show Calls Try.prog 11 #[.slice a p ca, .slice b q cb, .int .i64 n, .int .i64 i] W fun e w' => ∃ A c, e = .returned (.slice A m c) ∧ Ints .i64 w' A m ch ∧ Below W.heap.size W w' from by
    refine (C.chain W _ _ _ ws _ _ _ os n i (FC.out W bw) (FD.out W bw) HN.out N25.out HI.out).mono ?_
    rintro e w' ⟨v, rfl, o, b9⟩
    rw [← hch, ← hm] at o
    obtain ⟨A, c, rfl⟩ := own_sliceI o
    exact ⟨A, c, rfl, own_intsI o hm.symm, b9⟩)
  have RC := hide (fun (W : World) (bw : Below w2.heap.size w2 W) => show Calls Try.prog 13 #[.slice a p ca, .slice b q cb, .int .i64 n, .int .i64 i] W fun e w' => ∃ A c, e = .returned (.slice A m c) ∧ Ints .i64 w' A m ch ∧ Below W.heap.size W w' from by
    refine (rchainZ_any W _ _ _ ws _ _ _ os n i (FC.out W bw) (FD.out W bw) N25.out).mono ?_
    rintro e w' ⟨v, rfl, o, b9⟩
    rw [← hch, ← hm] at o
    obtain ⟨A, c, rfl⟩ := own_sliceI o
    exact ⟨A, c, rfl, own_intsI o hm.symm, b9⟩)
  have KO := hide (fun (W : World) (bw : Below w2.heap.size w2 W) => show Calls Try.prog 14 #[.slice (some ⟨w.heap.size, 0, none⟩) p (p + 3), .slice (some ⟨w1.heap.size, 0, none⟩) q (q + 3), .int .i64 n, .int .i64 i] W fun e w' => e = .returned (.int .i64 x) ∧ Below W.heap.size W w' from by rw [hx]; exact C.on W _ _ _ ws _ _ _ os n i (FA.out W bw) (FB.out W bw) HN.out N25.out HI.out)
  have RO := hide (fun (W : World) (bw : Below w2.heap.size w2 W) => show Calls Try.prog 15 #[.slice a p ca, .slice b q cb, .int .i64 n, .int .i64 i] W fun e w' => e = .returned (.int .i64 x) ∧ W = w' from by rw [hx]; exact ron_any _ _ _ ws _ _ _ os n i W (FC.out W bw).ints (FD.out W bw).ints (FC.out W bw).max (FD.out W bw).max)
  have KA := hide (fun (W : World) (bw : Below w2.heap.size w2 W) => show Calls Try.prog 16 #[.slice (some ⟨w.heap.size, 0, none⟩) p (p + 3), .slice (some ⟨w1.heap.size, 0, none⟩) q (q + 3), .int .i64 n] W fun e w' => e = .returned (.bool y) ∧ Below W.heap.size W w' from by rw [hy]; exact C.acyc W _ _ _ ws _ _ _ os n (FA.out W bw) (FB.out W bw) HN.out N25.out)
  have RA := hide (fun (W : World) (bw : Below w2.heap.size w2 W) => show Calls Try.prog 17 #[.slice a p ca, .slice b q cb, .int .i64 n] W fun e w' => e = .returned (.bool y) ∧ Below W.heap.size W w' from by rw [hy]; exact racycZ_any W _ _ _ ws _ _ _ os n (FC.out W bw) (FD.out W bw) N25.out)
  have K1 := hide (fun (W : World) (bw : Below w2.heap.size w2 W) => show Calls Try.prog 19 #[.slice (some ⟨w.heap.size, 0, none⟩) p (p + 3), .slice a p ca] W fun e w' => e = .returned (.bool true) ∧ Below W.heap.size W w' from kept_any _ _ _ _ ws W (room_below R12.out bw) (FC.out W bw).ints (by have := P25.out; omega))
  have K2 := hide (fun (W : World) (bw : Below w2.heap.size w2 W) => show Calls Try.prog 19 #[.slice (some ⟨w1.heap.size, 0, none⟩) q (q + 3), .slice b q cb] W fun e w' => e = .returned (.bool true) ∧ Below W.heap.size W w' from kept_any _ _ _ _ os W (room_below R2.out bw) (FD.out W bw).ints (by have := P25.out; omega))
  have SM := hide (fun (W : World) (A B : Option Addr) (c d : Nat) (i1 : Ints .i64 W A m ch) (i2 : Ints .i64 W B m ch) => same_any A B m c d ch W i1 i2 (by have := CL.out; omega))
  have z1 : (x == x) = true := by simp
  have z2 : (y == y) = true := by simp
  have ML := hide hm
  clear hch hm hx hy
  go_upto_region 6 with (first
    | (go_at_call 11; refine (KC.out _ (Below.refl _ _)).mono ?_; rintro e w3 ⟨a3, c3, rfl, o3, b3⟩; have O3 := hide o3; have B3 := hide b3; clear o3 b3)
    | (go_at_call 13; refine (RC.out _ B3.out).mono ?_; rintro e w4 ⟨a4, c4, rfl, i4, b4⟩; have I4 := hide i4; have B4 := hide (B3.out.trans (b4.mono B3.out.size)); have C4 := hide b4; clear i4 b4)
    | (go_at_call 12; refine (SM.out _ _ _ _ _ ((own_intsI O3.out ML.out.symm).below C4.out) I4.out).mono ?_; rintro e w5 ⟨rfl, b5⟩; have B5 := hide (B4.out.trans (b5.mono B4.out.size)); have C5 := hide (C4.out.trans (b5.mono C4.out.size)); clear b5)
    | (go_at_call 14; refine (KO.out _ B5.out).mono ?_; rintro e w6 ⟨rfl, b6⟩; have B6 := hide (B5.out.trans (b6.mono B5.out.size)); have C6 := hide (C5.out.trans (b6.mono C5.out.size)); clear b6)
    | (go_at_call 15; refine (RO.out _ B6.out).mono ?_; rintro e w' ⟨rfl, rfl⟩)
    | (go_at_call 16; refine (KA.out _ B6.out).mono ?_; rintro e w7 ⟨rfl, b7⟩; have B7 := hide (B6.out.trans (b7.mono B6.out.size)); have C7 := hide (C6.out.trans (b7.mono C6.out.size)); clear b7)
    | (go_at_call 17; refine (RA.out _ B7.out).mono ?_; rintro e w8 ⟨rfl, b8⟩; have B8 := hide (B7.out.trans (b8.mono B7.out.size)); have C8 := hide (C7.out.trans (b8.mono C7.out.size)); clear b8))
  have O8 := hide ((Touch.of_below (S := fun _ => False) C8.out).own O3.out (fun _ _ e => e))
  clear z1 z2 KC KO RO KA RA I4
  go_upto_region 7 with (go_at_call 18; refine (over_any _ m _ _ O8.out B8.out.size (by have := CL.out; omega)).mono ?_; rintro e w9 ⟨rfl, b9⟩; have B9 := hide (B8.out.trans b9); clear b9)
  go_wp2_with (first
    | (go_at_call 11; refine (KD.out _ B9.out).mono ?_; rintro e w10 ⟨a10, c10, rfl, i10, b10⟩; have I10 := hide i10; have B10 := hide (B9.out.trans (b10.mono B9.out.size)); clear i10 b10)
    | (go_at_call 13; refine (RC.out _ B10.out).mono ?_; rintro e w11 ⟨a11, c11, rfl, i11, b11⟩; have I11 := hide i11; have B11 := hide (B10.out.trans (b11.mono B10.out.size)); have J10 := hide (I10.out.below b11); clear i11 b11)
    | (go_at_call 12; refine (SM.out _ _ _ _ _ J10.out I11.out).mono ?_; rintro e w12 ⟨rfl, b12⟩; have B12 := hide (B11.out.trans (b12.mono B11.out.size)); clear b12)
    | (go_at_call 19; have b13 := B13.out; refine (K2.out _ b13).mono ?_; rintro e w14 ⟨rfl, b14⟩; have B14 := hide (b13.trans (b14.mono b13.size)); clear b14 b13)
    | (go_at_call 19; refine (K1.out _ B12.out).mono ?_; rintro e w13 ⟨rfl, b13⟩; have B13 := hide (B12.out.trans (b13.mono B12.out.size)); clear b13)
    | (go_at_call 9; refine (ghawake_any C _).mono ?_; rintro e w15 ⟨rfl, b15⟩; have B15 := hide (B14.out.trans (b15.mono B14.out.size)); clear b15))
  go_ret
  exact ⟨rfl, B2.out.trans (B15.out.mono B2.out.size)⟩
end Go.Proofs.Ythbhbanhgmaopaa
