/-
  Priorities lent out with marked room behind them; whether they are as they were; whether two lists are the same.
-/
import Derived.Test.YthbhbanhgmaopaaPrMax
import Derived.Deep.AppendLies
namespace Go.Proofs.Ythbhbanhgmaopaa
open Go.ChangeShapes Go.WideShapes Go.ChangeAt Go.RowKit
set_option linter.unusedVariables false
def cellsPr (p : Pr) : List Value := [.int .i64 p.c, .int .i64 p.l, .int .i64 p.d]
def cellsPrs (l : List Pr) : List Value := l.flatMap cellsPr
theorem cellsPrs_append (a b : List Pr) : cellsPrs (a ++ b) = cellsPrs a ++ cellsPrs b := by unfold cellsPrs; simp
theorem cellsPrs_length (l : List Pr) : (cellsPrs l).length = l.length * 3 := by
  induction l with
  | nil => rfl
  | cons x l ih => show (cellsPr x ++ cellsPrs l).length = _; rw [List.length_append, ih, List.length_cons]; show 3 + _ = _; omega
theorem cellsPrs_cell (l : List Pr) : ∀ v ∈ cellsPrs l, v.oneCell' = true := by
  intro v hv
  obtain ⟨x, _, h⟩ := List.mem_flatMap.mp hv
  simp [cellsPr] at h
  rcases h with rfl | rfl | rfl <;> rfl
theorem cellsPrs_at {l : List Pr} {i : Nat} (j : Nat) (h : i < l.length) (hj : j < 3) : (cellsPrs l)[i * 3 + j]? = (cellsPr (l.getD i prD))[j]? := by
  induction l generalizing i with
  | nil => cases h
  | cons x l ih =>
    show (cellsPr x ++ cellsPrs l)[i * 3 + j]? = _
    cases i with
    | zero =>
      rw [Nat.zero_mul, Nat.zero_add, List.getElem?_append_left (by show j < 3; exact hj)]
      rfl
    | succ i =>
      rw [List.getElem?_append_right (by show 3 ≤ (i + 1) * 3 + j; omega)]
      have : (i + 1) * 3 + j - (cellsPr x).length = i * 3 + j := by show (i + 1) * 3 + j - 3 = _; omega
      rw [this, ih (by simpa using h)]
      rfl
theorem PrRow.cells {w : World} {a : Option Addr} {n : Nat} {zs : List Pr} (h : PrRow w a n zs) : ∀ ad, a = some ad → ∀ j u, (cellsPrs zs)[j]? = some u → w.cell? (ad.add j) = some u := by
  intro ad ha j u hu
  have hj : j < (cellsPrs zs).length := (List.getElem?_eq_some_iff.mp hu).1
  rw [cellsPrs_length, h.1] at hj
  obtain ⟨b, off, e, hc⟩ := h.2 (by omega)
  rw [ha] at e
  injection e with e
  subst e
  obtain ⟨h0, h1, h2⟩ := hc (j / 3) (by omega)
  have hz := h.1
  rw [show j = j / 3 * 3 + j % 3 by omega, cellsPrs_at (j % 3) (by omega) (Nat.mod_lt _ (by omega))] at hu
  rw [addr_add]
  have hm : j % 3 = 0 ∨ j % 3 = 1 ∨ j % 3 = 2 := by omega
  rcases hm with e | e | e
  · rw [e] at hu
    rw [show off + j = off + j / 3 * 3 by omega, h0, ← Option.some.inj hu]
  · rw [e] at hu
    rw [show off + j = off + j / 3 * 3 + 1 by omega, h1, ← Option.some.inj hu]
  · rw [e] at hu
    rw [show off + j = off + j / 3 * 3 + 2 by omega, h2, ← Option.some.inj hu]
theorem prio_info : (Try.prog.info? 39).map (fun i => (i.zero, i.size, i.bytes)) = some (some (.agg #[.int .i64 0, .int .i64 0, .int .i64 0]), 3, 24) := by kernel_rfl
def markP : Pr := ⟨-7, 0, 0⟩
/-- Block g is a row: n priorities, k marks, and what is left of three. -/
def RoomP (w : World) (g n k : Nat) (ys : List Pr) : Prop :=
  ∃ cur : Array Value, w.heap[g]? = some (.cells cur 39 (0, 0)) ∧ cur.size = (n + 3) * 3 ∧ cur.toList.take ((n + k) * 3) = cellsPrs (ys ++ List.replicate k markP)
theorem RoomP.spot {w : World} {g n k : Nat} {ys : List Pr} (h : RoomP w g n k ys) (hk : k < 3) :
    (∃ u, w.cell? ⟨g, (n + k) * 3, none⟩ = some u) ∧ (∃ u, w.cell? ⟨g, (n + k) * 3 + 1, none⟩ = some u) ∧ (∃ u, w.cell? ⟨g, (n + k) * 3 + 2, none⟩ = some u) ∧ ∀ j, w.frozen? ⟨g, j, none⟩ = false := by
  obtain ⟨cur, hh, hs, ht⟩ := h
  refine ⟨⟨cur[(n + k) * 3], ?_⟩, ⟨cur[(n + k) * 3 + 1], ?_⟩, ⟨cur[(n + k) * 3 + 2], ?_⟩, fun j => frozen_of_row _ _ _ _ _ hh⟩ <;> (rw [cell_of_row _ _ _ _ _ _ hh]; exact Array.getElem?_eq_getElem (by omega))
theorem take_set3 {α : Type} (l : List α) (m : Nat) (a b c : α) (h : m + 3 ≤ l.length) : (((l.set m a).set (m + 1) b).set (m + 2) c).take (m + 3) = l.take m ++ [a, b, c] := by
  apply List.ext_getElem?
  intro j
  by_cases hj : j < m
  · rw [List.getElem?_take_of_lt (by omega), List.getElem?_append_left (by rw [List.length_take]; omega), List.getElem?_take_of_lt hj, List.getElem?_set_ne (by omega), List.getElem?_set_ne (by omega), List.getElem?_set_ne (by omega)]
  · by_cases hj3 : j < m + 3
    · rw [List.getElem?_take_of_lt hj3, List.getElem?_append_right (by rw [List.length_take]; omega), List.length_take, Nat.min_eq_left (by omega)]
      rcases (show j = m ∨ j = m + 1 ∨ j = m + 2 by omega) with rfl | rfl | rfl
      · rw [List.getElem?_set_ne (by omega), List.getElem?_set_ne (by omega), List.getElem?_set_self (by omega)]; simp
      · rw [List.getElem?_set_ne (by omega), List.getElem?_set_self (by rw [List.length_set]; omega)]; simp
      · rw [List.getElem?_set_self (by rw [List.length_set, List.length_set]; omega)]; simp
    · rw [List.getElem?_take_eq_none (by omega), List.getElem?_eq_none (by rw [List.length_append, List.length_take]; simp; omega)]
theorem RoomP.set {w : World} {g n k : Nat} {ys : List Pr} (h : RoomP w g n k ys) (hk : k < 3) :
    RoomP (((w.setCell ⟨g, (n + k) * 3, none⟩ (.int .i64 (-7))).setCell ⟨g, (n + k) * 3 + 1, none⟩ (.int .i64 0)).setCell ⟨g, (n + k) * 3 + 2, none⟩ (.int .i64 0)) g n (k + 1) ys := by
  obtain ⟨cur, hh, hs, ht⟩ := h
  have h1 := heap_setCell_same w g ((n + k) * 3) cur _ (.int .i64 (-7)) hh
  have h2 := heap_setCell_same _ g ((n + k) * 3 + 1) _ _ (.int .i64 0) h1
  have h3 := heap_setCell_same _ g ((n + k) * 3 + 2) _ _ (.int .i64 0) h2
  refine ⟨_, h3, by simpa using hs, ?_⟩
  rw [Array.toList_setIfInBounds, Array.toList_setIfInBounds, Array.toList_setIfInBounds, show (n + (k + 1)) * 3 = (n + k) * 3 + 3 by omega, take_set3 _ _ _ _ _ (by simp; omega), ht, List.replicate_succ', ← List.append_assoc, cellsPrs_append (ys ++ List.replicate k markP) [markP]]
  rfl
theorem RoomP.at_ {w : World} {g n : Nat} {ys : List Pr} (h : RoomP w g n 3 ys) (hl : ys.length = n) {i : Nat} (hi : i < n + 3) : w.cell? ⟨g, i * 3, none⟩ = some (.int .i64 ((ys ++ List.replicate 3 markP).getD i prD).c) ∧ w.cell? ⟨g, i * 3 + 1, none⟩ = some (.int .i64 ((ys ++ List.replicate 3 markP).getD i prD).l) ∧ w.cell? ⟨g, i * 3 + 2, none⟩ = some (.int .i64 ((ys ++ List.replicate 3 markP).getD i prD).d) := by
  obtain ⟨cur, hh, hs, ht⟩ := h
  have h1 : cur.toList.take ((n + 3) * 3) = cur.toList := List.take_of_length_le (by simp; omega)
  rw [h1] at ht
  have hc : ∀ j, j < 3 → cur[i * 3 + j]? = (cellsPr ((ys ++ List.replicate 3 markP).getD i prD))[j]? := fun j hj => by
    rw [← Array.getElem?_toList, ht]
    exact cellsPrs_at j (by simp; omega) hj
  refine ⟨?_, ?_, ?_⟩
  · rw [cell_of_row _ _ _ _ _ _ hh]; exact hc 0 (by omega)
  · rw [cell_of_row _ _ _ _ _ _ hh]; exact hc 1 (by omega)
  · rw [cell_of_row _ _ _ _ _ _ hh]; exact hc 2 (by omega)
theorem RoomP.row {w : World} {g n : Nat} {ys : List Pr} (h : RoomP w g n 3 ys) (hl : ys.length = n) : PrRow w (some ⟨g, 0, none⟩) n ys := by
  refine ⟨hl, fun hn => ⟨g, 0, rfl, fun i hi => ?_⟩⟩
  have := h.at_ hl (show i < n + 3 by omega)
  rw [show (ys ++ List.replicate 3 markP).getD i prD = ys.getD i prD from by simp [List.getD, List.getElem?_append_left (show i < ys.length by omega)]] at this
  simpa using this
theorem RoomP.mark {w : World} {g n : Nat} {ys : List Pr} (h : RoomP w g n 3 ys) (hl : ys.length = n) {k : Nat} (hk : k < 3) : w.cell? ⟨g, (n + k) * 3, none⟩ = some (.int .i64 (-7)) ∧ w.cell? ⟨g, (n + k) * 3 + 1, none⟩ = some (.int .i64 0) ∧ w.cell? ⟨g, (n + k) * 3 + 2, none⟩ = some (.int .i64 0) := by
  have := h.at_ hl (show n + k < n + 3 by omega)
  rw [show (ys ++ List.replicate 3 markP).getD (n + k) prD = markP from by
    rw [List.getD_eq_getElem?_getD, List.getElem?_append_right (by omega), List.getElem?_replicate, if_pos (by omega)]; rfl] at this
  exact this
theorem RoomP.below {w w' : World} {g n k : Nat} {ys : List Pr} (h : RoomP w g n k ys) (b : Below w.heap.size w w') : RoomP w' g n k ys := by
  obtain ⟨cur, hh, r⟩ := h
  exact ⟨cur, (b.block g (lt_of_heap hh)).trans hh, r⟩
set_option maxHeartbeats 2000000 in
theorem lendP_any (a : Option Addr) (n c : Nat) (ys : List Pr) (w : World) (ha : PrRow w a n ys) (na : a = none → c = 0) (hn : n ≤ 1000000) :
    Calls Try.prog 20 #[.slice a n c] w fun e w' => e = .returned (.slice (some ⟨w.heap.size, 0, none⟩) n (n + 3)) ∧ RoomP w' w.heap.size n 3 ys ∧ Below w.heap.size w w' := by
  obtain ⟨i0, hi0, hz0, hz1, hz2⟩ := info_parts prio_info
  have hz3 : i0.bytes * (n + 3) ≤ 281474976710656 := by rw [hz2]; omega
  have HZ := hide hz2
  clear hz2
  have hnone : a = none → n = 0 ∧ c = 0 := fun e => by
    refine ⟨?_, na e⟩
    rcases Nat.eq_zero_or_pos n with h0 | h0
    · exact h0
    · obtain ⟨b, off, e', _⟩ := ha.2 h0; rw [e] at e'; cases e'
  have HA := hide ha
  have HC := hide (fun (w1 : World) (b1 : Below w.heap.size w w1) => (ha.below b1).cells)
  have hl := ha.1
  clear ha
  go_enter Try.func20, Try.ntmps20
  go_wp2_with (first
    | (at_builtin; refine wpList_append_fits_any _ rfl (.tmp 10) (.tmp 11) _ rfl w.heap.size 39 i0 3 Try.underlying31 hi0 hz1 w.heap.size 0 (n + 3) [] rfl o1 a n c (cellsPrs ys) rfl (by rw [cellsPrs_length, hl]) hnone (fun ad h => by subst h; exact HC.out _ b1 ad rfl) (cellsPrs_cell ys) (by omega) ?_; intro w2 o2 g2)
    | (refine wpList_make_own _ rfl (.const (.int .i64 0)) (.tmp 8) _ rfl w.heap.size 39 i0 _ 3 Try.underlying31 hi0 hz0 hz1 .i64 .i64 _ (n + 3) rfl rfl (by omega) hz3 (by unfold maxLen; omega) (Nat.le_refl _) ?_; intro w1 o1 g1; have b1 := (Below.refl w.heap.size w).grown g1 (Nat.le_refl _) (by simp)))
  have R0 : RoomP w2 w.heap.size n 0 ys := by
    rcases o2.2 with ⟨h, _⟩ | ⟨g', cap', cur, h, _, hg, _, _, hcs, ht⟩
    · cases h
    · simp only [Value.slice.injEq, Option.some.injEq, Addr.mk.injEq, and_true] at h
      obtain ⟨rfl, _, h2⟩ := h
      refine ⟨cur, hg, by omega, ?_⟩
      simpa using ht
  have B0 := b1.grown g2 b1.size (by intro k hk; injection hk with hk; omega)
  clear o2 g2 o1 g1 b1
  go_loopw [5] (fun i wr => ∃ k : Nat, k ≤ 3 ∧ i = .int .i64 k ∧ Hid (RoomP wr w.heap.size n k ys ∧ Below w.heap.size w wr)) (fun i _ => 3 - (intOf i).toNat)
  case atStart => exact ⟨0, by omega, rfl, R0, B0⟩
  case round =>
    clear R0 B0
    obtain ⟨k, hk, rfl, hZ⟩ := hrel
    by_cases hlt : k < 3
    · obtain ⟨⟨u0, c0⟩, ⟨u1, c1⟩, ⟨u2, c2⟩, fz⟩ := hZ.out.1.spot hlt
      have R1 := hide (hZ.out.1.set hlt)
      have T := hide (((((Touch.refl (fun i => i = w.heap.size) wr).setCell (p := ⟨w.heap.size, (n + k) * 3, none⟩) rfl (.int .i64 (-7))).setCell (p := ⟨w.heap.size, (n + k) * 3 + 1, none⟩) rfl (.int .i64 0)).setCell (p := ⟨w.heap.size, (n + k) * 3 + 2, none⟩) rfl (.int .i64 0)).below hZ.out.2.size (fun i e => by rw [e]; exact Nat.le_refl _))
      have f0 := fz (n * 3 + k * 3)
      have f1 := fz (n * 3 + k * 3 + 1)
      have f2 := fz (n * 3 + k * 3 + 2)
      rw [show (n + k) * 3 = n * 3 + k * 3 by omega] at c0 c1 c2 R1 T
      have B := hide hZ.out.2
      clear hZ fz
      have k0 : (0 : Int) ≤ (k : Int) := by omega
      have k1 : (k : Int) < ((n + 3 - n : Nat) : Int) := by omega
      have k2 : (k : Int) < 3 := by omega
      go_wp2_with fail
      go_roundw
      case rel => exact ⟨k + 1, by omega, by go_num, R1.out, B.out.trans T.out⟩
      case measure => simp [intOf]; omega
    · obtain rfl : k = 3 := by omega
      go_wp2_with fail
      go_ret
      exact ⟨rfl, hZ.out⟩
end Go.Proofs.Ythbhbanhgmaopaa
