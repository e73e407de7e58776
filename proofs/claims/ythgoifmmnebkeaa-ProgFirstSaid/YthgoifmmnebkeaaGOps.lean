/-
  Ops of package coxswainlaw0: lent out with marked room, the same, kept, written over.
-/
import Derived.Test.YthgoifmmnebkeaaPgPlain
import Derived.Test.YthgoifmmnebkeaaGRow
import Derived.Deep.QuietTactic
import Derived.BigQuiet
import Derived.Deep.AppendLies
import Derived.Deep.DeepCutAuto
import Derived.Deep.CutBlock
import Derived.Deep.RegionHeld3
namespace Go.Proofs.Ythgoifmmnebkeaa
open Go.ChangeShapes Go.WideShapes Go.ChangeAt Go.RowKit
set_option linter.unusedVariables false
theorem stVals_len (x : Step) : (stVals x).length = 9 := rfl
theorem stVals_cell (x : Step) : ∀ v ∈ stVals x, v.oneCell' = true := by
  intro v hv
  simp [stVals] at hv
  rcases hv with rfl | rfl | rfl | rfl | rfl | rfl | rfl | rfl | rfl <;> rfl
theorem ops_info : (Try.prog.info? 25).map (fun i => (i.zero, i.size, i.bytes)) = some (some (.agg #[.int .i64 0, .int .i64 0, .int .i64 0, .int .i64 0, .int .i64 0, .int .i64 0, .int .i64 0, .string ByteArray.empty, .string ByteArray.empty]), 9, 88) := by kernel_rfl
theorem built_ops_mark : Try.prog.built 25 [(0, .int .i64 (-7))] = some #[.int .i64 (-7), .int .i64 0, .int .i64 0, .int .i64 0, .int .i64 0, .int .i64 0, .int .i64 0, .string ByteArray.empty, .string ByteArray.empty] := by kernel_rfl
attribute [local go_sem] built_ops_mark
theorem built_ops_over : Try.prog.built 25 [(0, .int .i64 (-9))] = some #[.int .i64 (-9), .int .i64 0, .int .i64 0, .int .i64 0, .int .i64 0, .int .i64 0, .int .i64 0, .string ByteArray.empty, .string ByteArray.empty] := by kernel_rfl
attribute [local go_sem] built_ops_over
def mkOps : Step := ⟨-7, 0, 0, 0, ⟨0, 0, 0, ByteArray.empty, ByteArray.empty⟩⟩
def ovOps : Step := ⟨-9, 0, 0, 0, ⟨0, 0, 0, ByteArray.empty, ByteArray.empty⟩⟩
theorem step_same (w : World) (x : Step) : (binOp .neq 25 (.agg #[.int .i64 x.k, .int .i64 x.a, .int .i64 x.b, .int .i64 x.c, .int .i64 x.cl.sys, .int .i64 x.cl.a, .int .i64 x.cl.b, .string x.cl.s, .string x.cl.t]) (.agg #[.int .i64 x.k, .int .i64 x.a, .int .i64 x.b, .int .i64 x.c, .int .i64 x.cl.sys, .int .i64 x.cl.a, .int .i64 x.cl.b, .string x.cl.s, .string x.cl.t])).run Try.prog w = .ok (.bool false) w := by
  have := step_neq w x x
  rw [step_refl] at this
  exact this
set_option maxRecDepth 10000 in
set_option maxHeartbeats 4000000 in
theorem lendOps_any (a : Option Addr) (n c : Nat) (ys : List Step) (w : World) (ha : Reads 9 stVals w a n ys) (na : a = none → c = 0) (hn : n ≤ 1000000) :
    Calls Try.prog 13 #[.slice a n c] w fun e w' => e = .returned (.slice (some ⟨w.heap.size, 0, none⟩) n (n + 3)) ∧ RoomG 9 stVals mkOps 25 w' w.heap.size n 3 ys ∧ Below w.heap.size w w' := by
  obtain ⟨i0, hi0, hz0, hz1, hz2⟩ := info_parts ops_info
  have hz3 : i0.bytes * (n + 3) ≤ 281474976710656 := by rw [hz2]; omega
  have HZ := hide hz2
  clear hz2
  have hnone : a = none → n = 0 ∧ c = 0 := fun e => ⟨ha.isNil e, na e⟩
  have HA := hide ha
  have HC := hide (fun (w1 : World) (b1 : Below w.heap.size w w1) => (ha.below b1).cells stVals_len)
  have hl := ha.1
  have hlf : (ys.flatMap stVals).length = n * 9 := by rw [flat_length stVals_len, hl]
  have hfc := flat_cell stVals_cell ys
  clear ha
  go_enter Try.func13, Try.ntmps13
  go_wp2_with (first
    | (at_builtin; refine wpList_append_fits_any _ rfl (.tmp 10) (.tmp 11) _ rfl w.heap.size 25 i0 9 Try.underlying29 hi0 hz1 w.heap.size 0 (n + 3) [] rfl o1 a n c (ys.flatMap stVals) rfl hlf hnone (fun ad h => by subst h; exact HC.out _ b1 ad rfl) hfc (by omega) ?_; intro w2 o2 g2)
    | (refine wpList_make_own _ rfl (.const (.int .i64 0)) (.tmp 8) _ rfl w.heap.size 25 i0 _ 9 Try.underlying29 hi0 hz0 hz1 .i64 .i64 _ (n + 3) rfl rfl (by omega) hz3 (by unfold maxLen; omega) (Nat.le_refl _) ?_; intro w1 o1 g1; have b1 := (Below.refl w.heap.size w).grown g1 (Nat.le_refl _) (by simp)))
  have R0 : RoomG 9 stVals mkOps 25 w2 w.heap.size n 0 ys := by
    rcases o2.2 with ⟨h, _⟩ | ⟨g', cap', cur, h, _, hg, _, _, hcs, ht⟩
    · cases h
    · simp only [Value.slice.injEq, Option.some.injEq, Addr.mk.injEq, and_true] at h
      obtain ⟨rfl, _, h2⟩ := h
      refine ⟨cur, hg, by omega, ?_⟩
      simpa using ht
  have B0 := b1.grown g2 b1.size (by intro k hk; injection hk with hk; omega)
  clear o2 g2 o1 g1 b1 hfc hlf
  rw [show n + 3 - n = 3 by omega]
  go_loopw [5] (fun i wr => ∃ k : Nat, k ≤ 3 ∧ i = .int .i64 k ∧ Hid (RoomG 9 stVals mkOps 25 wr w.heap.size n k ys ∧ Below w.heap.size w wr)) (fun i _ => 3 - (intOf i).toNat)
  case atStart => exact ⟨0, by omega, rfl, R0, B0⟩
  case round =>
    clear R0 B0
    obtain ⟨k, hk, rfl, hZ⟩ := hrel
    by_cases hlt : k < 3
    · obtain ⟨sp, fz⟩ := hZ.out.1.spot hlt
      rw [show (n + k) * 9 = n * 9 + k * 9 by omega] at sp
      obtain ⟨u0, c0⟩ : ∃ u, wr.cell? ⟨w.heap.size, n * 9 + k * 9, none⟩ = some u := sp 0 (by omega)
      obtain ⟨u1, c1⟩ : ∃ u, wr.cell? ⟨w.heap.size, n * 9 + k * 9 + 1, none⟩ = some u := sp 1 (by omega)
      obtain ⟨u2, c2⟩ : ∃ u, wr.cell? ⟨w.heap.size, n * 9 + k * 9 + 2, none⟩ = some u := sp 2 (by omega)
      obtain ⟨u3, c3⟩ : ∃ u, wr.cell? ⟨w.heap.size, n * 9 + k * 9 + 3, none⟩ = some u := sp 3 (by omega)
      obtain ⟨u4, c4⟩ : ∃ u, wr.cell? ⟨w.heap.size, n * 9 + k * 9 + 4, none⟩ = some u := sp 4 (by omega)
      obtain ⟨u5, c5⟩ : ∃ u, wr.cell? ⟨w.heap.size, n * 9 + k * 9 + 5, none⟩ = some u := sp 5 (by omega)
      obtain ⟨u6, c6⟩ : ∃ u, wr.cell? ⟨w.heap.size, n * 9 + k * 9 + 6, none⟩ = some u := sp 6 (by omega)
      obtain ⟨u7, c7⟩ : ∃ u, wr.cell? ⟨w.heap.size, n * 9 + k * 9 + 7, none⟩ = some u := sp 7 (by omega)
      obtain ⟨u8, c8⟩ : ∃ u, wr.cell? ⟨w.heap.size, n * 9 + k * 9 + 8, none⟩ = some u := sp 8 (by omega)
      have f0 := fz (n * 9 + k * 9)
      have f1 := fz (n * 9 + k * 9 + 1)
      have f2 := fz (n * 9 + k * 9 + 2)
      have f3 := fz (n * 9 + k * 9 + 3)
      have f4 := fz (n * 9 + k * 9 + 4)
      have f5 := fz (n * 9 + k * 9 + 5)
      have f6 := fz (n * 9 + k * 9 + 6)
      have f7 := fz (n * 9 + k * 9 + 7)
      have f8 := fz (n * 9 + k * 9 + 8)
      have R1 := hide (show RoomG 9 stVals mkOps 25 (((((((((wr.setCell ⟨w.heap.size, n * 9 + k * 9, none⟩ (.int .i64 (-7))).setCell ⟨w.heap.size, n * 9 + k * 9 + 1, none⟩ (.int .i64 0)).setCell ⟨w.heap.size, n * 9 + k * 9 + 2, none⟩ (.int .i64 0)).setCell ⟨w.heap.size, n * 9 + k * 9 + 3, none⟩ (.int .i64 0)).setCell ⟨w.heap.size, n * 9 + k * 9 + 4, none⟩ (.int .i64 0)).setCell ⟨w.heap.size, n * 9 + k * 9 + 5, none⟩ (.int .i64 0)).setCell ⟨w.heap.size, n * 9 + k * 9 + 6, none⟩ (.int .i64 0)).setCell ⟨w.heap.size, n * 9 + k * 9 + 7, none⟩ (.string ByteArray.empty)).setCell ⟨w.heap.size, n * 9 + k * 9 + 8, none⟩ (.string ByteArray.empty)) w.heap.size n (k + 1) ys from by have := hZ.out.1.set stVals_len hlt; rw [show (n + k) * 9 = n * 9 + k * 9 by omega] at this; exact this)
      have T := hide (((((((((((Touch.refl (fun i => i = w.heap.size) wr).setCell (p := ⟨w.heap.size, n * 9 + k * 9, none⟩) rfl (.int .i64 (-7))).setCell (p := ⟨w.heap.size, n * 9 + k * 9 + 1, none⟩) rfl (.int .i64 0)).setCell (p := ⟨w.heap.size, n * 9 + k * 9 + 2, none⟩) rfl (.int .i64 0)).setCell (p := ⟨w.heap.size, n * 9 + k * 9 + 3, none⟩) rfl (.int .i64 0)).setCell (p := ⟨w.heap.size, n * 9 + k * 9 + 4, none⟩) rfl (.int .i64 0)).setCell (p := ⟨w.heap.size, n * 9 + k * 9 + 5, none⟩) rfl (.int .i64 0)).setCell (p := ⟨w.heap.size, n * 9 + k * 9 + 6, none⟩) rfl (.int .i64 0)).setCell (p := ⟨w.heap.size, n * 9 + k * 9 + 7, none⟩) rfl (.string ByteArray.empty)).setCell (p := ⟨w.heap.size, n * 9 + k * 9 + 8, none⟩) rfl (.string ByteArray.empty)).below hZ.out.2.size (fun i e => by rw [e]; exact Nat.le_refl _))
      have B := hide hZ.out.2
      clear hZ fz sp
      have k0 : (0 : Int) ≤ (k : Int) := by omega
      have k1 : (k : Int) < ((3 : Nat) : Int) := by omega
      have k2 : (k : Int) < 3 := by omega
      go_wp2_with (refine wpList_build rfl 25 _ rfl (by kernel_rfl) ?_)
      go_roundw
      case rel => exact ⟨k + 1, by omega, by go_num, R1.out, B.out.trans T.out⟩
      case measure => simp [intOf]; omega
    · obtain rfl : k = 3 := by omega
      go_wp2_with fail
      go_ret
      exact ⟨rfl, hZ.out⟩
set_option maxHeartbeats 4000000 in
theorem sameOps_any (a b : Option Addr) (n c d : Nat) (ys : List Step) (w : World) (ha : Reads 9 stVals w a n ys) (hb : Reads 9 stVals w b n ys) (hn : n ≤ 1000000) :
    Calls Try.prog 15 #[.slice a n c, .slice b n d] w fun e w' => e = .returned (.bool true) ∧ Below w.heap.size w w' := by
  have HA := hide ha
  have HB := hide hb
  have g0 : ((n : Int) != (n : Int)) = false := by simp
  clear ha hb
  go_enter Try.func15, Try.ntmps15
  go_wp2_with fail
  go_loopw [5] (fun i wr => ∃ k : Nat, k ≤ n ∧ i = .int .i64 k ∧ Hid (∃ q, wr = w.drewN q)) (fun i _ => n - (intOf i).toNat)
  case atStart => exact ⟨0, Nat.zero_le _, rfl, 0, rfl⟩
  case round =>
    obtain ⟨k, hk, rfl, hZ⟩ := hrel
    by_cases hlt : k < n
    · have k0 : (0 : Int) ≤ (k : Int) := by omega
      have k1 : (k : Int) < (n : Int) := by omega
      obtain ⟨x, b1, o1, hx, rfl, hp⟩ := HA.out.at_ hlt
      obtain ⟨x', b2, o2, hx', rfl, hq⟩ := HB.out.at_ hlt
      rw [hx] at hx'
      injection hx' with hx'
      subst hx'
      have DR := hide (show ∃ q, wr = w.drewN q from hZ.out)
      have hcell : ∀ p : Addr, wr.cell? p = w.cell? p := fun p => by obtain ⟨q, rfl⟩ := hZ.out; rfl
      have p0 : wr.cell? ⟨b1, o1 + k * 9, none⟩ = some (.int .i64 x.k) := (hcell _).trans (hp 0 _ rfl)
      have p1 : wr.cell? ⟨b1, o1 + k * 9 + 1, none⟩ = some (.int .i64 x.a) := (hcell _).trans (hp 1 _ rfl)
      have p2 : wr.cell? ⟨b1, o1 + k * 9 + 2, none⟩ = some (.int .i64 x.b) := (hcell _).trans (hp 2 _ rfl)
      have p3 : wr.cell? ⟨b1, o1 + k * 9 + 3, none⟩ = some (.int .i64 x.c) := (hcell _).trans (hp 3 _ rfl)
      have p4 : wr.cell? ⟨b1, o1 + k * 9 + 4, none⟩ = some (.int .i64 x.cl.sys) := (hcell _).trans (hp 4 _ rfl)
      have p5 : wr.cell? ⟨b1, o1 + k * 9 + 5, none⟩ = some (.int .i64 x.cl.a) := (hcell _).trans (hp 5 _ rfl)
      have p6 : wr.cell? ⟨b1, o1 + k * 9 + 6, none⟩ = some (.int .i64 x.cl.b) := (hcell _).trans (hp 6 _ rfl)
      have p7 : wr.cell? ⟨b1, o1 + k * 9 + 7, none⟩ = some (.string x.cl.s) := (hcell _).trans (hp 7 _ rfl)
      have p8 : wr.cell? ⟨b1, o1 + k * 9 + 8, none⟩ = some (.string x.cl.t) := (hcell _).trans (hp 8 _ rfl)
      have q0 : wr.cell? ⟨b2, o2 + k * 9, none⟩ = some (.int .i64 x.k) := (hcell _).trans (hq 0 _ rfl)
      have q1 : wr.cell? ⟨b2, o2 + k * 9 + 1, none⟩ = some (.int .i64 x.a) := (hcell _).trans (hq 1 _ rfl)
      have q2 : wr.cell? ⟨b2, o2 + k * 9 + 2, none⟩ = some (.int .i64 x.b) := (hcell _).trans (hq 2 _ rfl)
      have q3 : wr.cell? ⟨b2, o2 + k * 9 + 3, none⟩ = some (.int .i64 x.c) := (hcell _).trans (hq 3 _ rfl)
      have q4 : wr.cell? ⟨b2, o2 + k * 9 + 4, none⟩ = some (.int .i64 x.cl.sys) := (hcell _).trans (hq 4 _ rfl)
      have q5 : wr.cell? ⟨b2, o2 + k * 9 + 5, none⟩ = some (.int .i64 x.cl.a) := (hcell _).trans (hq 5 _ rfl)
      have q6 : wr.cell? ⟨b2, o2 + k * 9 + 6, none⟩ = some (.int .i64 x.cl.b) := (hcell _).trans (hq 6 _ rfl)
      have q7 : wr.cell? ⟨b2, o2 + k * 9 + 7, none⟩ = some (.string x.cl.s) := (hcell _).trans (hq 7 _ rfl)
      have q8 : wr.cell? ⟨b2, o2 + k * 9 + 8, none⟩ = some (.string x.cl.t) := (hcell _).trans (hq 8 _ rfl)
      have ne := fun W => step_same W x
      clear hp hq hx hcell hZ
      go_upto_region 6 with fail
      go_quiet (fail)
      have DR2 : Hid (∃ q, wr.drewN nq = w.drewN q) := (show ∃ q, wr.drewN nq = w.drewN q from by
        obtain ⟨q, rfl⟩ := DR.out
        exact ⟨q + nq, by simp [World.drewN, Nat.add_assoc]⟩)
      clear p0 q0 p1 q1 p2 q2 p3 q3 p4 q4 p5 q5 p6 q6 p7 q7 p8 q8 DR
      generalize wr.drewN nq = w2 at *
      go_wp2_with fail
      go_roundw
      case rel => exact ⟨k + 1, by omega, by go_num, DR2.out⟩
      case measure => simp [intOf]; omega
    · obtain rfl : k = n := by omega
      go_wp2_with fail
      go_ret
      obtain ⟨q, rfl⟩ := hZ.out
      exact ⟨rfl, below_drewN (Below.refl _ _) q⟩
set_option maxRecDepth 10000 in
set_option maxHeartbeats 4000000 in
theorem keptOps_any (g : Nat) (b : Option Addr) (n d : Nat) (ys : List Step) (w : World) (hr : RoomG 9 stVals mkOps 25 w g n 3 ys) (hb : Reads 9 stVals w b n ys) (hn : n ≤ 1000000) :
    Calls Try.prog 17 #[.slice (some ⟨g, 0, none⟩) n (n + 3), .slice b n d] w fun e w' => e = .returned (.bool true) ∧ Below w.heap.size w w' := by
  have H0 := hide (hr.row stVals_len hb.1)
  have HM := hide (fun k (hk : k < 3) j u hu => hr.mark (k := k) (j := j) (u := u) stVals_len hb.1 hk hu)
  have HB := hide hb
  have ne := fun W => step_same W mkOps
  simp only [mkOps] at ne
  clear hr hb
  go_enter Try.func17, Try.ntmps17
  go_wp2_with fail
  rw [show n + 3 - n = 3 by omega]
  go_loop [6] (fun i => ∃ k : Nat, k ≤ 3 ∧ i = .int .i64 k) (fun i => 3 - (intOf i).toNat)
  case atStart => exact ⟨0, Nat.zero_le _, rfl⟩
  case round =>
    obtain ⟨k, hk, rfl⟩ := hrel
    by_cases hlt : k < 3
    · have hm := HM.out k hlt
      rw [show (n + k) * 9 = n * 9 + k * 9 by omega] at hm
      have m0 : w.cell? ⟨g, n * 9 + k * 9, none⟩ = some (.int .i64 (-7)) := hm 0 _ rfl
      have m1 : w.cell? ⟨g, n * 9 + k * 9 + 1, none⟩ = some (.int .i64 0) := hm 1 _ rfl
      have m2 : w.cell? ⟨g, n * 9 + k * 9 + 2, none⟩ = some (.int .i64 0) := hm 2 _ rfl
      have m3 : w.cell? ⟨g, n * 9 + k * 9 + 3, none⟩ = some (.int .i64 0) := hm 3 _ rfl
      have m4 : w.cell? ⟨g, n * 9 + k * 9 + 4, none⟩ = some (.int .i64 0) := hm 4 _ rfl
      have m5 : w.cell? ⟨g, n * 9 + k * 9 + 5, none⟩ = some (.int .i64 0) := hm 5 _ rfl
      have m6 : w.cell? ⟨g, n * 9 + k * 9 + 6, none⟩ = some (.int .i64 0) := hm 6 _ rfl
      have m7 : w.cell? ⟨g, n * 9 + k * 9 + 7, none⟩ = some (.string ByteArray.empty) := hm 7 _ rfl
      have m8 : w.cell? ⟨g, n * 9 + k * 9 + 8, none⟩ = some (.string ByteArray.empty) := hm 8 _ rfl
      clear hm
      have k0 : (0 : Int) ≤ (k : Int) := by omega
      have k1 : (k : Int) < ((3 : Nat) : Int) := by omega
      have k2 : (k : Int) < 3 := by omega
      go_wp2_with (refine wpList_build rfl 25 _ rfl (by kernel_rfl) ?_)
      go_round
      case rel => exact ⟨k + 1, by omega, by go_num⟩
      case measure => simp [intOf]; omega
    · obtain rfl : k = 3 := by omega
      go_wp2_with (go_at_call 15; refine (sameOps_any _ _ n _ _ ys _ H0.out HB.out hn).mono ?_; rintro e w' ⟨rfl, hz⟩)
      go_ret
      exact ⟨rfl, hz⟩
theorem own_sliceOps {w : World} {B : Nat} {e : TypeId} {z n : Nat} {v : Value} {xs : List Value} (h : w.ownsRow B e z v n xs) : ∃ a c, v = .slice a n c ∧ (a = none → c = 0) := by
  rcases h.2 with ⟨rfl, rfl⟩ | ⟨g, cap, cur, rfl, _⟩
  · exact ⟨none, 0, rfl, fun _ => rfl⟩
  · exact ⟨_, _, rfl, (fun e => by cases e)⟩
set_option maxRecDepth 10000 in
set_option maxHeartbeats 4000000 in
theorem overOps_any (v : Value) (n : Nat) (xs : List Value) (w : World) {B : Nat} (hv : w.ownsRow B 25 9 v n xs) (hn : n ≤ 1000000) :
    Calls Try.prog 18 #[v] w fun e w' => e = .returned (.tuple #[]) ∧ Touch (fun i => v.ownBlock = some i) w w' := by
  obtain ⟨i0, hi0, hz0, hz1, hz2⟩ := info_parts ops_info
  obtain ⟨a, c, rfl, _⟩ := own_sliceOps hv
  have HZ := hide hz2
  go_enter Try.func18, Try.ntmps18
  go_wp2_with fail
  go_loopw [2] (fun i wr => ∃ (k : Nat) (ys : List Value), k ≤ n ∧ i = .int .i64 k ∧ Hid (wr.ownsRow B 25 9 (.slice a n c) n ys ∧ Touch (fun i => (Value.slice a n c).ownBlock = some i) w wr)) (fun i _ => n - (intOf i).toNat)
  case atStart => exact ⟨0, xs, Nat.zero_le _, rfl, hv, Touch.refl _ _⟩
  case round =>
    obtain ⟨k, ys, hk, rfl, hZ⟩ := hrel
    have ho := hZ.out.1
    have hb := hZ.out.2
    by_cases hlt : k < n
    · obtain ⟨g, cap, e⟩ : ∃ g cap, (Value.slice a n c) = .slice (some ⟨g, 0, none⟩) n cap := by
        rcases ho.2 with ⟨_, h⟩ | ⟨g, cap, cur, e, _⟩
        · omega
        · exact ⟨_, _, e⟩
      injection e with e1 _ e2
      subst e1 e2
      have hl : ys.length = n * 9 := ho.1
      have k0 : (0 : Int) ≤ (k : Int) := by omega
      have k1 : (k : Int) < (n : Int) := by omega
      have hc : ∀ j, j < 9 → ∃ u, wr.cell? ⟨g, k * 9 + j, none⟩ = some u := fun j hj => ⟨_, (ho.cellAt (k * 9 + j) (by omega)).trans (List.getElem?_eq_getElem (by omega))⟩
      obtain ⟨u0, c0⟩ : ∃ u, wr.cell? ⟨g, k * 9, none⟩ = some u := hc 0 (by omega)
      obtain ⟨u1, c1⟩ : ∃ u, wr.cell? ⟨g, k * 9 + 1, none⟩ = some u := hc 1 (by omega)
      obtain ⟨u2, c2⟩ : ∃ u, wr.cell? ⟨g, k * 9 + 2, none⟩ = some u := hc 2 (by omega)
      obtain ⟨u3, c3⟩ : ∃ u, wr.cell? ⟨g, k * 9 + 3, none⟩ = some u := hc 3 (by omega)
      obtain ⟨u4, c4⟩ : ∃ u, wr.cell? ⟨g, k * 9 + 4, none⟩ = some u := hc 4 (by omega)
      obtain ⟨u5, c5⟩ : ∃ u, wr.cell? ⟨g, k * 9 + 5, none⟩ = some u := hc 5 (by omega)
      obtain ⟨u6, c6⟩ : ∃ u, wr.cell? ⟨g, k * 9 + 6, none⟩ = some u := hc 6 (by omega)
      obtain ⟨u7, c7⟩ : ∃ u, wr.cell? ⟨g, k * 9 + 7, none⟩ = some u := hc 7 (by omega)
      obtain ⟨u8, c8⟩ : ∃ u, wr.cell? ⟨g, k * 9 + 8, none⟩ = some u := hc 8 (by omega)
      have f0 := ho.frozenAt (k * 9)
      have f1 := ho.frozenAt (k * 9 + 1)
      have f2 := ho.frozenAt (k * 9 + 2)
      have f3 := ho.frozenAt (k * 9 + 3)
      have f4 := ho.frozenAt (k * 9 + 4)
      have f5 := ho.frozenAt (k * 9 + 5)
      have f6 := ho.frozenAt (k * 9 + 6)
      have f7 := ho.frozenAt (k * 9 + 7)
      have f8 := ho.frozenAt (k * 9 + 8)
      have S := hide ((((((((((ho.stored (k * 9) (.int .i64 (-9))).1.stored (k * 9 + 1) (.int .i64 0)).1.stored (k * 9 + 2) (.int .i64 0)).1.stored (k * 9 + 3) (.int .i64 0)).1.stored (k * 9 + 4) (.int .i64 0)).1.stored (k * 9 + 5) (.int .i64 0)).1.stored (k * 9 + 6) (.int .i64 0)).1.stored (k * 9 + 7) (.string ByteArray.empty)).1.stored (k * 9 + 8) (.string ByteArray.empty)).1)
      have B1 := hide (((((((((hb.setCell (p := ⟨g, k * 9, none⟩) rfl (.int .i64 (-9))).setCell (p := ⟨g, k * 9 + 1, none⟩) rfl (.int .i64 0)).setCell (p := ⟨g, k * 9 + 2, none⟩) rfl (.int .i64 0)).setCell (p := ⟨g, k * 9 + 3, none⟩) rfl (.int .i64 0)).setCell (p := ⟨g, k * 9 + 4, none⟩) rfl (.int .i64 0)).setCell (p := ⟨g, k * 9 + 5, none⟩) rfl (.int .i64 0)).setCell (p := ⟨g, k * 9 + 6, none⟩) rfl (.int .i64 0)).setCell (p := ⟨g, k * 9 + 7, none⟩) rfl (.string ByteArray.empty)).setCell (p := ⟨g, k * 9 + 8, none⟩) rfl (.string ByteArray.empty))
      clear ho hb hv hc hZ
      go_wp2_with (refine wpList_build rfl 25 _ rfl (by kernel_rfl) ?_)
      go_roundw
      case rel => exact ⟨k + 1, _, by omega, by go_num, S.out, B1.out⟩
      case measure => simp [intOf]; omega
    · have HO := hide ho
      have HB := hide hb
      clear hv ho hb hZ
      have hby : (n + 1) * 88 ≤ 140737488355328 := by omega
      go_wp2_with (first
        | (at_builtin; refine wpList_append_own_at _ rfl (.tmp 13) (.tmp 15) _ rfl 0 25 i0 _ 9 88 Try.underlying29 hi0 hz0 hz1 HZ.out rfl (by omega) _ _ _ rfl (own_base (HO.out.alloc _) (Nat.zero_le _)) ⟨wr.heap.size, 0, none⟩ 1 1 (stVals ovOps) rfl rfl (cells_new wr (stVals ovOps) _ _ rfl) (stVals_cell ovOps) (by unfold maxLen; omega) hby (Nat.zero_le _) ?_; intro v9 w9 o9 g9 _ t9; have hr' := hide ((HB.out.alloc _).trans (Touch.of_grown (S := fun i => (Value.slice a n c).ownBlock = some i) g9 (fun g e => e)) (fun i e => .inl e)); clear g9 t9)
        | (refine wpList_build rfl 25 _ rfl (by kernel_rfl) ?_))
      go_end0
      exact ⟨rfl, hr'.out⟩
end Go.Proofs.Ythgoifmmnebkeaa
