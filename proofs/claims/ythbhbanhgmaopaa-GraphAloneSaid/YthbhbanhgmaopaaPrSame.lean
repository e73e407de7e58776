/-
  Two lists of priorities that are the same; what was lent is as it was.
-/
import Derived.Test.YthbhbanhgmaopaaPrLend
namespace Go.Proofs.Ythbhbanhgmaopaa
open Go.ChangeShapes Go.WideShapes Go.ChangeAt Go.RowKit
set_option linter.unusedVariables false
theorem prio_same (w : World) (x y z : Int) : (binOp .neq 39 (.agg #[.int .i64 x, .int .i64 y, .int .i64 z]) (.agg #[.int .i64 x, .int .i64 y, .int .i64 z])).run Try.prog w = .ok (.bool false) w := by
  rw [prio_neq]; simp
theorem PrRow.at_ {w : World} {a : Option Addr} {n : Nat} {ys : List Pr} (h : PrRow w a n ys) {i : Nat} (hi : i < n) : ∃ b off, a = some ⟨b, off, none⟩ ∧ w.cell? ⟨b, off + i * 3, none⟩ = some (.int .i64 (ys.getD i prD).c) ∧ w.cell? ⟨b, off + i * 3 + 1, none⟩ = some (.int .i64 (ys.getD i prD).l) ∧ w.cell? ⟨b, off + i * 3 + 2, none⟩ = some (.int .i64 (ys.getD i prD).d) := by
  obtain ⟨b, off, e, hc⟩ := h.2 (by omega)
  exact ⟨b, off, e, hc i hi⟩
set_option maxHeartbeats 1000000 in
theorem sameP_any (a b : Option Addr) (n c d : Nat) (ys : List Pr) (w : World) (ha : PrRow w a n ys) (hb : PrRow w b n ys) (hn : n ≤ 1000000) :
    Calls Try.prog 22 #[.slice a n c, .slice b n d] w fun e w' => e = .returned (.bool true) ∧ Below w.heap.size w w' := by
  have HA := hide ha
  have HB := hide hb
  have g0 : ((n : Int) != (n : Int)) = false := by simp
  clear ha hb
  go_enter Try.func22, Try.ntmps22
  go_wp2_with fail
  go_loopw [5] (fun i wr => ∃ k : Nat, k ≤ n ∧ i = .int .i64 k ∧ Hid (∃ q, wr = w.drewN q)) (fun i _ => n - (intOf i).toNat)
  case atStart => exact ⟨0, Nat.zero_le _, rfl, 0, rfl⟩
  case round =>
    obtain ⟨k, hk, rfl, hZ⟩ := hrel
    by_cases hlt : k < n
    · have k0 : (0 : Int) ≤ (k : Int) := by omega
      have k1 : (k : Int) < (n : Int) := by omega
      obtain ⟨b1, o1, rfl, p0, p1, p2⟩ := HA.out.at_ hlt
      obtain ⟨b2, o2, rfl, q0, q1, q2⟩ := HB.out.at_ hlt
      have DR := hide (show ∃ q, wr = w.drewN q from hZ.out)
      have hcell : ∀ p : Addr, wr.cell? p = w.cell? p := fun p => by obtain ⟨q, rfl⟩ := hZ.out; rfl
      have p0' := (hcell _).trans p0
      have p1' := (hcell _).trans p1
      have p2' := (hcell _).trans p2
      have q0' := (hcell _).trans q0
      have q1' := (hcell _).trans q1
      have q2' := (hcell _).trans q2
      have ne := fun W => prio_same W (ys.getD k prD).c (ys.getD k prD).l (ys.getD k prD).d
      generalize ys.getD k prD = y at *
      clear p0 p1 p2 q0 q1 q2 hcell hZ
      go_upto_region 6 with fail
      go_quiet (fail)
      have DR2 : Hid (∃ q, wr.drewN nq = w.drewN q) := (show ∃ q, wr.drewN nq = w.drewN q from by
        obtain ⟨q, rfl⟩ := DR.out
        exact ⟨q + nq, by simp [World.drewN, Nat.add_assoc]⟩)
      clear p0' p1' p2' q0' q1' q2' DR
      generalize wr.drewN nq = w2 at *
      go_wp2_with fail
      go_roundw
      case rel => exact ⟨k + 1, by omega, by go_num, DR2.out⟩
      case measure => simp [intOf]; omega
    · obtain rfl : k = n := by omega
      go_wp2_with fail
      go_ret
      obtain ⟨q, rfl⟩ := hZ.out
      exact ⟨rfl, below_drewN (Below.refl _ _) q⟩
set_option maxHeartbeats 1000000 in
theorem keptP_any (g : Nat) (b : Option Addr) (n d : Nat) (ys : List Pr) (w : World) (hr : RoomP w g n 3 ys) (hb : PrRow w b n ys) (hn : n ≤ 1000000) :
    Calls Try.prog 24 #[.slice (some ⟨g, 0, none⟩) n (n + 3), .slice b n d] w fun e w' => e = .returned (.bool true) ∧ Below w.heap.size w w' := by
  have H0 := hide (hr.row hb.1)
  have HM := hide (fun k (hk : k < 3) => hr.mark hb.1 hk)
  have HB := hide hb
  have ne := fun W => prio_same W (-7) 0 0
  clear hr hb
  go_enter Try.func24, Try.ntmps24
  go_wp2_with fail
  go_loop [6] (fun i => ∃ k : Nat, k ≤ 3 ∧ i = .int .i64 k) (fun i => 3 - (intOf i).toNat)
  case atStart => exact ⟨0, Nat.zero_le _, rfl⟩
  case round =>
    obtain ⟨k, hk, rfl⟩ := hrel
    by_cases hlt : k < 3
    · obtain ⟨m0, m1, m2⟩ := HM.out k hlt
      rw [show (n + k) * 3 = n * 3 + k * 3 by omega] at m0 m1 m2
      have k0 : (0 : Int) ≤ (k : Int) := by omega
      have k1 : (k : Int) < ((n + 3 - n : Nat) : Int) := by omega
      have k2 : (k : Int) < 3 := by omega
      go_wp2_with fail
      go_round
      case rel => exact ⟨k + 1, by omega, by go_num⟩
      case measure => simp [intOf]; omega
    · obtain rfl : k = 3 := by omega
      go_wp2_with (go_at_call 22; refine (sameP_any _ _ n _ _ ys _ H0.out HB.out hn).mono ?_; rintro e w' ⟨rfl, hz⟩)
      go_ret
      exact ⟨rfl, hz⟩
end Go.Proofs.Ythbhbanhgmaopaa
