/-
  Prios of package coxswainlaw0: lent out with marked room, the same, kept, written over.
-/
import Derived.Test.YthbhbanhgmaopaaGhPrio
import Derived.Test.YthbhbanhgmaopaaGRow
import Derived.Deep.QuietTactic
import Derived.BigQuiet
import Derived.Deep.AppendLies
import Derived.Deep.DeepCutAuto
import Derived.Deep.CutBlock
import Derived.Deep.RegionHeld3
namespace Go.Proofs.Ythbhbanhgmaopaa
open Go.ChangeShapes Go.WideShapes Go.ChangeAt Go.RowKit
set_option linter.unusedVariables false
theorem prVals_len (x : Pr) : (prVals x).length = 3 := rfl
theorem prVals_cell (x : Pr) : ∀ v ∈ prVals x, v.oneCell' = true := by
  intro v hv
  simp [prVals] at hv
  rcases hv with rfl | rfl | rfl <;> rfl
theorem prios_info : (Try.prog.info? 39).map (fun i => (i.zero, i.size, i.bytes)) = some (some (.agg #[.int .i64 0, .int .i64 0, .int .i64 0]), 3, 24) := by kernel_rfl
theorem built_prios_mark : Try.prog.built 39 [(0, .int .i64 (-7))] = some #[.int .i64 (-7), .int .i64 0, .int .i64 0] := by kernel_rfl
attribute [local go_sem] built_prios_mark
theorem built_prios_over : Try.prog.built 39 [(0, .int .i64 (-9))] = some #[.int .i64 (-9), .int .i64 0, .int .i64 0] := by kernel_rfl
attribute [local go_sem] built_prios_over
def mkPrios : Pr := ⟨-7, 0, 0⟩
def ovPrios : Pr := ⟨-9, 0, 0⟩
theorem prq_same (w : World) (x : Pr) : (binOp .neq 39 (.agg #[.int .i64 x.c, .int .i64 x.l, .int .i64 x.d]) (.agg #[.int .i64 x.c, .int .i64 x.l, .int .i64 x.d])).run Try.prog w = .ok (.bool false) w := by
  have := prq_neq w x x
  rw [prq_refl] at this
  exact this
set_option maxRecDepth 10000 in
set_option maxHeartbeats 4000000 in
theorem lendPrios_any (a : Option Addr) (n c : Nat) (ys : List Pr) (w : World) (ha : Reads 3 prVals w a n ys) (na : a = none → c = 0) (hn : n ≤ 1000000) :
    Calls Try.prog 20 #[.slice a n c] w fun e w' => e = .returned (.slice (some ⟨w.heap.size, 0, none⟩) n (n + 3)) ∧ RoomG 3 prVals mkPrios 39 w' w.heap.size n 3 ys ∧ Below w.heap.size w w' := by
  obtain ⟨i0, hi0, hz0, hz1, hz2⟩ := info_parts prios_info
  have hz3 : i0.bytes * (n + 3) ≤ 281474976710656 := by rw [hz2]; omega
  have HZ := hide hz2
  clear hz2
  have hnone : a = none → n = 0 ∧ c = 0 := fun e => ⟨ha.isNil e, na e⟩
  have HA := hide ha
  have HC := hide (fun (w1 : World) (b1 : Below w.heap.size w w1) => (ha.below b1).cells prVals_len)
  have hl := ha.1
  have hlf : (ys.flatMap prVals).length = n * 3 := by rw [flat_length prVals_len, hl]
  have hfc := flat_cell prVals_cell ys
  clear ha
  go_enter Try.func20, Try.ntmps20
  go_wp2_with (first
    | (at_builtin; refine wpList_append_fits_any _ rfl (.tmp 10) (.tmp 11) _ rfl w.heap.size 39 i0 3 Try.underlying31 hi0 hz1 w.heap.size 0 (n + 3) [] rfl o1 a n c (ys.flatMap prVals) rfl hlf hnone (fun ad h => by subst h; exact HC.out _ b1 ad rfl) hfc (by omega) ?_; intro w2 o2 g2)
    | (refine wpList_make_own _ rfl (.const (.int .i64 0)) (.tmp 8) _ rfl w.heap.size 39 i0 _ 3 Try.underlying31 hi0 hz0 hz1 .i64 .i64 _ (n + 3) rfl rfl (by omega) hz3 (by unfold maxLen; omega) (Nat.le_refl _) ?_; intro w1 o1 g1; have b1 := (Below.refl w.heap.size w).grown g1 (Nat.le_refl _) (by simp)))
  have R0 : RoomG 3 prVals mkPrios 39 w2 w.heap.size n 0 ys := by
    rcases o2.2 with ⟨h, _⟩ | ⟨g', cap', cur, h, _, hg, _, _, hcs, ht⟩
    · cases h
    · simp only [Value.slice.injEq, Option.some.injEq, Addr.mk.injEq, and_true] at h
      obtain ⟨rfl, _, h2⟩ := h
      refine ⟨cur, hg, by omega, ?_⟩
      simpa using ht
  have B0 := b1.grown g2 b1.size (by intro k hk; injection hk with hk; omega)
  clear o2 g2 o1 g1 b1 hfc hlf
  rw [show n + 3 - n = 3 by omega]
  go_loopw [5] (fun i wr => ∃ k : Nat, k ≤ 3 ∧ i = .int .i64 k ∧ Hid (RoomG 3 prVals mkPrios 39 wr w.heap.size n k ys ∧ Below w.heap.size w wr)) (fun i _ => 3 - (intOf i).toNat)
  case atStart => exact ⟨0, by omega, rfl, R0, B0⟩
  case round =>
    clear R0 B0
    obtain ⟨k, hk, rfl, hZ⟩ := hrel
    by_cases hlt : k < 3
    · obtain ⟨sp, fz⟩ := hZ.out.1.spot hlt
      rw [show (n + k) * 3 = n * 3 + k * 3 by omega] at sp
      obtain ⟨u0, c0⟩ : ∃ u, wr.cell? ⟨w.heap.size, n * 3 + k * 3, none⟩ = some u := sp 0 (by omega)
      obtain ⟨u1, c1⟩ : ∃ u, wr.cell? ⟨w.heap.size, n * 3 + k * 3 + 1, none⟩ = some u := sp 1 (by omega)
      obtain ⟨u2, c2⟩ : ∃ u, wr.cell? ⟨w.heap.size, n * 3 + k * 3 + 2, none⟩ = some u := sp 2 (by omega)
      have f0 := fz (n * 3 + k * 3)
      have f1 := fz (n * 3 + k * 3 + 1)
      have f2 := fz (n * 3 + k * 3 + 2)
      have R1 := hide (show RoomG 3 prVals mkPrios 39 (((wr.setCell ⟨w.heap.size, n * 3 + k * 3, none⟩ (.int .i64 (-7))).setCell ⟨w.heap.size, n * 3 + k * 3 + 1, none⟩ (.int .i64 0)).setCell ⟨w.heap.size, n * 3 + k * 3 + 2, none⟩ (.int .i64 0)) w.heap.size n (k + 1) ys from by have := hZ.out.1.set prVals_len hlt; rw [show (n + k) * 3 = n * 3 + k * 3 by omega] at this; exact this)
      have T := hide (((((Touch.refl (fun i => i = w.heap.size) wr).setCell (p := ⟨w.heap.size, n * 3 + k * 3, none⟩) rfl (.int .i64 (-7))).setCell (p := ⟨w.heap.size, n * 3 + k * 3 + 1, none⟩) rfl (.int .i64 0)).setCell (p := ⟨w.heap.size, n * 3 + k * 3 + 2, none⟩) rfl (.int .i64 0)).below hZ.out.2.size (fun i e => by rw [e]; exact Nat.le_refl _))
      have B := hide hZ.out.2
      clear hZ fz sp
      have k0 : (0 : Int) ≤ (k : Int) := by omega
      have k1 : (k : Int) < ((3 : Nat) : Int) := by omega
      have k2 : (k : Int) < 3 := by omega
      go_wp2_with (refine wpList_build rfl 39 _ rfl (by kernel_rfl) ?_)
      go_roundw
      case rel => exact ⟨k + 1, by omega, by go_num, R1.out, B.out.trans T.out⟩
      case measure => simp [intOf]; omega
    · obtain rfl : k = 3 := by omega
      go_wp2_with fail
      go_ret
      exact ⟨rfl, hZ.out⟩
set_option maxHeartbeats 4000000 in
theorem samePrios_any (a b : Option Addr) (n c d : Nat) (ys : List Pr) (w : World) (ha : Reads 3 prVals w a n ys) (hb : Reads 3 prVals w b n ys) (hn : n ≤ 1000000) :
    Calls Try.prog 22 #[.slice a n c, .slice b n d] w fun e w' => e = .returned (.bool true) ∧ Below w.heap.size w w' := by
  have HA := hide ha
  have HB := hide hb
  have g0 : ((n : Int) != (n : Int)) = false := by simp
  clear ha hb
  go_enter Try.func22, Try.ntmps22
  go_wp2_with fail
  go_loopw [5] (fun i wr => ∃ k : Nat, k ≤ n ∧ i = .int .i64 k ∧ Hid (∃ q, wr = w.drewN q)) (fun i _ => n - (intOf i).toNat)
  case atStart => exact ⟨0, Nat.zero_le _, rfl, 0, rfl⟩
  case round =>
    obtain ⟨k, hk, rfl, hZ⟩ := hrel
    by_cases hlt : k < n
    · have k0 : (0 : Int) ≤ (k : Int) := by omega
      have k1 : (k : Int) < (n : Int) := by omega
      obtain ⟨x, b1, o1, hx, rfl, hp⟩ := HA.out.at_ hlt
      obtain ⟨x', b2, o2, hx', rfl, hq⟩ := HB.out.at_ hlt
      rw [hx] at hx'
      injection hx' with hx'
      subst hx'
      have DR := hide (show ∃ q, wr = w.drewN q from hZ.out)
      have hcell : ∀ p : Addr, wr.cell? p = w.cell? p := fun p => by obtain ⟨q, rfl⟩ := hZ.out; rfl
      have p0 : wr.cell? ⟨b1, o1 + k * 3, none⟩ = some (.int .i64 x.c) := (hcell _).trans (hp 0 _ rfl)
      have p1 : wr.cell? ⟨b1, o1 + k * 3 + 1, none⟩ = some (.int .i64 x.l) := (hcell _).trans (hp 1 _ rfl)
      have p2 : wr.cell? ⟨b1, o1 + k * 3 + 2, none⟩ = some (.int .i64 x.d) := (hcell _).trans (hp 2 _ rfl)
      have q0 : wr.cell? ⟨b2, o2 + k * 3, none⟩ = some (.int .i64 x.c) := (hcell _).trans (hq 0 _ rfl)
      have q1 : wr.cell? ⟨b2, o2 + k * 3 + 1, none⟩ = some (.int .i64 x.l) := (hcell _).trans (hq 1 _ rfl)
      have q2 : wr.cell? ⟨b2, o2 + k * 3 + 2, none⟩ = some (.int .i64 x.d) := (hcell _).trans (hq 2 _ rfl)
      have ne := fun W => prq_same W x
      clear hp hq hx hcell hZ
      go_upto_region 6 with fail
      go_quiet (fail)
      have DR2 : Hid (∃ q, wr.drewN nq = w.drewN q) := (show ∃ q, wr.drewN nq = w.drewN q from by
        obtain ⟨q, rfl⟩ := DR.out
        exact ⟨q + nq, by simp [World.drewN, Nat.add_assoc]⟩)
      clear p0 q0 p1 q1 p2 q2 DR
      generalize wr.drewN nq = w2 at *
      go_wp2_with fail
      go_roundw
      case rel => exact ⟨k + 1, by omega, by go_num, DR2.out⟩
      case measure => simp [intOf]; omega
    · obtain rfl : k = n := by omega
      go_wp2_with fail
      go_ret
      obtain ⟨q, rfl⟩ := hZ.out
      exact ⟨rfl, below_drewN (Below.refl _ _) q⟩
set_option maxRecDepth 10000 in
set_option maxHeartbeats 4000000 in
theorem keptPrios_any (g : Nat) (b : Option Addr) (n d : Nat) (ys : List Pr) (w : World) (hr : RoomG 3 prVals mkPrios 39 w g n 3 ys) (hb : Reads 3 prVals w b n ys) (hn : n ≤ 1000000) :
    Calls Try.prog 24 #[.slice (some ⟨g, 0, none⟩) n (n + 3), .slice b n d] w fun e w' => e = .returned (.bool true) ∧ Below w.heap.size w w' := by
  have H0 := hide (hr.row prVals_len hb.1)
  have HM := hide (fun k (hk : k < 3) j u hu => hr.mark (k := k) (j := j) (u := u) prVals_len hb.1 hk hu)
  have HB := hide hb
  have ne := fun W => prq_same W mkPrios
  simp only [mkPrios] at ne
  clear hr hb
  go_enter Try.func24, Try.ntmps24
  go_wp2_with fail
  rw [show n + 3 - n = 3 by omega]
  go_loop [6] (fun i => ∃ k : Nat, k ≤ 3 ∧ i = .int .i64 k) (fun i => 3 - (intOf i).toNat)
  case atStart => exact ⟨0, Nat.zero_le _, rfl⟩
  case round =>
    obtain ⟨k, hk, rfl⟩ := hrel
    by_cases hlt : k < 3
    · have hm := HM.out k hlt
      rw [show (n + k) * 3 = n * 3 + k * 3 by omega] at hm
      have m0 : w.cell? ⟨g, n * 3 + k * 3, none⟩ = some (.int .i64 (-7)) := hm 0 _ rfl
      have m1 : w.cell? ⟨g, n * 3 + k * 3 + 1, none⟩ = some (.int .i64 0) := hm 1 _ rfl
      have m2 : w.cell? ⟨g, n * 3 + k * 3 + 2, none⟩ = some (.int .i64 0) := hm 2 _ rfl
      clear hm
      have k0 : (0 : Int) ≤ (k : Int) := by omega
      have k1 : (k : Int) < ((3 : Nat) : Int) := by omega
      have k2 : (k : Int) < 3 := by omega
      go_wp2_with (refine wpList_build rfl 39 _ rfl (by kernel_rfl) ?_)
      go_round
      case rel => exact ⟨k + 1, by omega, by go_num⟩
      case measure => simp [intOf]; omega
    · obtain rfl : k = 3 := by omega
      go_wp2_with (go_at_call 22; refine (samePrios_any _ _ n _ _ ys _ H0.out HB.out hn).mono ?_; rintro e w' ⟨rfl, hz⟩)
      go_ret
      exact ⟨rfl, hz⟩
theorem own_slicePrios {w : World} {B : Nat} {e : TypeId} {z n : Nat} {v : Value} {xs : List Value} (h : w.ownsRow B e z v n xs) : ∃ a c, v = .slice a n c ∧ (a = none → c = 0) := by
  rcases h.2 with ⟨rfl, rfl⟩ | ⟨g, cap, cur, rfl, _⟩
  · exact ⟨none, 0, rfl, fun _ => rfl⟩
  · exact ⟨_, _, rfl, (fun e => by cases e)⟩
set_option maxRecDepth 10000 in
set_option maxHeartbeats 4000000 in
theorem overPrios_any (v : Value) (n : Nat) (xs : List Value) (w : World) {B : Nat} (hv : w.ownsRow B 39 3 v n xs) (hn : n ≤ 1000000) :
    Calls Try.prog 25 #[v] w fun e w' => e = .returned (.tuple #[]) ∧ Touch (fun i => v.ownBlock = some i) w w' := by
  obtain ⟨i0, hi0, hz0, hz1, hz2⟩ := info_parts prios_info
  obtain ⟨a, c, rfl, _⟩ := own_slicePrios hv
  have HZ := hide hz2
  go_enter Try.func25, Try.ntmps25
  go_wp2_with fail
  go_loopw [2] (fun i wr => ∃ (k : Nat) (ys : List Value), k ≤ n ∧ i = .int .i64 k ∧ Hid (wr.ownsRow B 39 3 (.slice a n c) n ys ∧ Touch (fun i => (Value.slice a n c).ownBlock = some i) w wr)) (fun i _ => n - (intOf i).toNat)
  case atStart => exact ⟨0, xs, Nat.zero_le _, rfl, hv, Touch.refl _ _⟩
  case round =>
    obtain ⟨k, ys, hk, rfl, hZ⟩ := hrel
    have ho := hZ.out.1
    have hb := hZ.out.2
    by_cases hlt : k < n
    · obtain ⟨g, cap, e⟩ : ∃ g cap, (Value.slice a n c) = .slice (some ⟨g, 0, none⟩) n cap := by
        rcases ho.2 with ⟨_, h⟩ | ⟨g, cap, cur, e, _⟩
        · omega
        · exact ⟨_, _, e⟩
      injection e with e1 _ e2
      subst e1 e2
      have hl : ys.length = n * 3 := ho.1
      have k0 : (0 : Int) ≤ (k : Int) := by omega
      have k1 : (k : Int) < (n : Int) := by omega
      have hc : ∀ j, j < 3 → ∃ u, wr.cell? ⟨g, k * 3 + j, none⟩ = some u := fun j hj => ⟨_, (ho.cellAt (k * 3 + j) (by omega)).trans (List.getElem?_eq_getElem (by omega))⟩
      obtain ⟨u0, c0⟩ : ∃ u, wr.cell? ⟨g, k * 3, none⟩ = some u := hc 0 (by omega)
      obtain ⟨u1, c1⟩ : ∃ u, wr.cell? ⟨g, k * 3 + 1, none⟩ = some u := hc 1 (by omega)
      obtain ⟨u2, c2⟩ : ∃ u, wr.cell? ⟨g, k * 3 + 2, none⟩ = some u := hc 2 (by omega)
      have f0 := ho.frozenAt (k * 3)
      have f1 := ho.frozenAt (k * 3 + 1)
      have f2 := ho.frozenAt (k * 3 + 2)
      have S := hide ((((ho.stored (k * 3) (.int .i64 (-9))).1.stored (k * 3 + 1) (.int .i64 0)).1.stored (k * 3 + 2) (.int .i64 0)).1)
      have B1 := hide (((hb.setCell (p := ⟨g, k * 3, none⟩) rfl (.int .i64 (-9))).setCell (p := ⟨g, k * 3 + 1, none⟩) rfl (.int .i64 0)).setCell (p := ⟨g, k * 3 + 2, none⟩) rfl (.int .i64 0))
      clear ho hb hv hc hZ
      go_wp2_with (refine wpList_build rfl 39 _ rfl (by kernel_rfl) ?_)
      go_roundw
      case rel => exact ⟨k + 1, _, by omega, by go_num, S.out, B1.out⟩
      case measure => simp [intOf]; omega
    · have HO := hide ho
      have HB := hide hb
      clear hv ho hb hZ
      have hby : (n + 1) * 24 ≤ 140737488355328 := by omega
      go_wp2_with (first
        | (at_builtin; refine wpList_append_own_at _ rfl (.tmp 13) (.tmp 15) _ rfl 0 39 i0 _ 3 24 Try.underlying31 hi0 hz0 hz1 HZ.out rfl (by omega) _ _ _ rfl (own_base (HO.out.alloc _) (Nat.zero_le _)) ⟨wr.heap.size, 0, none⟩ 1 1 (prVals ovPrios) rfl rfl (cells_new wr (prVals ovPrios) _ _ rfl) (prVals_cell ovPrios) (by unfold maxLen; omega) hby (Nat.zero_le _) ?_; intro v9 w9 o9 g9 _ t9; have hr' := hide ((HB.out.alloc _).trans (Touch.of_grown (S := fun i => (Value.slice a n c).ownBlock = some i) g9 (fun g e => e)) (fun i e => .inl e)); clear g9 t9)
        | (refine wpList_build rfl 39 _ rfl (by kernel_rfl) ?_))
      go_end0
      exact ⟨rfl, hr'.out⟩
end Go.Proofs.Ythbhbanhgmaopaa
