/-
  Contracts of what the statements share: a slice of integers lent out with marked room behind it; whether it is as it was.
-/
import Derived.Test.YthbhbanhgmaopaaSame
import Derived.Deep.QuietTactic
import Derived.BigQuiet
namespace Go.Proofs.Ythbhbanhgmaopaa
open Go.ChangeShapes Go.WideShapes Go.ChangeAt Go.RowKit
set_option linter.unusedVariables false
/-- Block g is a row of cells: n integers, k marks, and what is left of three. -/
def Room (w : World) (g : Nat) (e : TypeId) (n k : Nat) (vs : List Value) (mark : Value) : Prop :=
  ∃ cur : Array Value, w.heap[g]? = some (.cells cur e (0, 0)) ∧ cur.size = n + 3 ∧ cur.toList.take (n + k) = vs ++ List.replicate k mark
theorem room_cell {w : World} {g : Nat} {e : TypeId} {n k : Nat} {vs : List Value} {mark : Value} (h : Room w g e n k vs mark) (hk : k < 3) :
    (∃ u, w.cell? ⟨g, n + k, none⟩ = some u) ∧ w.frozen? ⟨g, n + k, none⟩ = false := by
  obtain ⟨cur, hh, hs, ht⟩ := h
  refine ⟨⟨cur[n + k], ?_⟩, frozen_of_row w g _ cur e hh⟩
  rw [cell_of_row w g (n + k) cur e (0, 0) hh]
  exact Array.getElem?_eq_getElem (by omega)
theorem room_set {w : World} {g : Nat} {e : TypeId} {n k : Nat} {vs : List Value} {mark : Value} (h : Room w g e n k vs mark) (hl : vs.length = n) (hk : k < 3) :
    Room (w.setCell ⟨g, n + k, none⟩ mark) g e n (k + 1) vs mark := by
  obtain ⟨cur, hh, hs, ht⟩ := h
  refine ⟨cur.setIfInBounds (n + k) mark, heap_setCell_same w g (n + k) cur e mark hh, by simpa using hs, ?_⟩
  rw [Array.toList_setIfInBounds, ← Nat.add_assoc, List.take_succ_eq_append_getElem (by simp; omega), List.take_set_of_le (by omega), ht]
  simp [List.replicate_succ', List.append_assoc]
theorem room_start {w : World} {B g n m : Nat} {e : TypeId} {xs : List Int} {q : IntKind} {mark : Value} (h : w.ownsRow B e 1 (.slice (some ⟨g, 0, none⟩) (0 + n) (n + 3)) m ([] ++ xs.map (Value.int q))) (hl : xs.length = n) :
    Room w g e n 0 (xs.map (Value.int q)) mark := by
  rcases h.2 with ⟨h, _⟩ | ⟨g', cap', cur, h, _, hg, _, _, hcs, ht⟩
  · cases h
  · simp only [Value.slice.injEq, Option.some.injEq, Addr.mk.injEq, and_true] at h
    obtain ⟨rfl, h1, h2⟩ := h
    refine ⟨cur, hg, by omega, ?_⟩
    have : m = n := by have := h.1; simp at this; omega
    subst this
    simpa using ht
set_option maxHeartbeats 800000 in
theorem lend_any (a : Option Addr) (n c : Nat) (xs : List Int) (w : World) (ha : Ints .i64 w a n xs) (na : a = none → c = 0) (hn : n ≤ 1000000) :
    Calls Try.prog 10 #[.slice a n c] w fun e w' => e = .returned (.slice (some ⟨w.heap.size, 0, none⟩) n (n + 3)) ∧
      Room w' w.heap.size 3 n 3 (xs.map (Value.int .i64)) (.int .i64 (-777)) ∧ Below w.heap.size w w' := by
  obtain ⟨i0, hi0, hz0, hz1, hz2⟩ := info_parts int_info
  have hz3 : i0.bytes * (n + 3) ≤ 281474976710656 := by rw [hz2]; omega
  have HZ := hide hz2
  clear hz2
  go_enter Try.func10, Try.ntmps10
  go_wp2_with (first
    | (at_builtin; refine wpList_append_fits_any _ rfl (.tmp 10) (.tmp 11) _ rfl w.heap.size 3 i0 1 Try.underlying22 hi0 hz1 w.heap.size 0 (n + 3) [] rfl o1 a n c (xs.map (Value.int .i64)) rfl (by simpa using ha.1) (ints_none ha na) (fun ad h => by subst h; exact ints_cells (ha.below b1)) (ints_one _ xs) (by omega) ?_; intro w2 o2 g2)
    | (refine wpList_make_own _ rfl (.const (.int .i64 0)) (.tmp 8) _ rfl w.heap.size 3 i0 _ 1 Try.underlying22 hi0 hz0 hz1 .i64 .i64 _ (n + 3) rfl rfl (by omega) hz3 (by unfold maxLen; omega) (Nat.le_refl _) ?_; intro w1 o1 g1; have b1 := (Below.refl w.heap.size w).grown g1 (Nat.le_refl _) (by simp)))
  have R0 : Room w2 w.heap.size 3 n 0 (xs.map (Value.int .i64)) (.int .i64 (-777)) := room_start o2 ha.1
  have B0 := b1.grown g2 b1.size (by intro k hk; injection hk with hk; omega)
  clear o2 g2 o1 g1 b1
  go_loopw [5] (fun i wr => ∃ k : Nat, k ≤ 3 ∧ i = .int .i64 k ∧ Room wr w.heap.size 3 n k (xs.map (Value.int .i64)) (.int .i64 (-777)) ∧ Below w.heap.size w wr) (fun i _ => 3 - (intOf i).toNat)
  case atStart => exact ⟨0, by omega, rfl, R0, B0⟩
  case round =>
    obtain ⟨k, hk, rfl, hr, hb⟩ := hrel
    by_cases hlt : k < 3
    · obtain ⟨⟨u, hu⟩, hf⟩ := room_cell hr hlt
      have R1 := hide (room_set hr (by simpa using ha.1) hlt)
      have B1 := hide (hb.setCell (p := ⟨w.heap.size, n + k, none⟩) (Nat.le_refl _) (.int .i64 (-777)))
      have HA := hide ha
      clear hr hb R0 B0 ha
      have k0 : (0 : Int) ≤ (k : Int) := by omega
      have k2 : (k : Int) < 3 := by omega
      go_wp2_with fail
      go_roundw
      case rel => exact ⟨k + 1, by omega, by go_num, R1.out, B1.out⟩
      case measure => simp [intOf]; omega
    · obtain rfl : k = 3 := by omega
      clear R0 B0
      go_wp2_with fail
      go_ret
      exact ⟨rfl, hr, hb⟩
theorem room_mark {w : World} {g : Nat} {e : TypeId} {n k : Nat} {vs : List Value} {mark : Value} (h : Room w g e n 3 vs mark) (hl : vs.length = n) (hk : k < 3) : w.cell? ⟨g, n + k, none⟩ = some mark := by
  obtain ⟨cur, hh, hs, ht⟩ := h
  rw [cell_of_row w g (n + k) cur e (0, 0) hh]
  have h1 : cur.toList.take (n + 3) = cur.toList := List.take_of_length_le (by simp; omega)
  rw [h1] at ht
  have : cur[n + k]? = (cur.toList)[n + k]? := by simp
  rw [this, ht, List.getElem?_append_right (by omega), hl, List.getElem?_replicate]
  simp; omega
theorem room_ints {w : World} {g : Nat} {e : TypeId} {n : Nat} {xs : List Int} {q : IntKind} {mark : Value} (h : Room w g e n 3 (xs.map (Value.int q)) mark) (hl : xs.length = n) : Ints q w (some ⟨g, 0, none⟩) n xs := by
  obtain ⟨cur, hh, hs, ht⟩ := h
  refine ⟨hl, fun _ => ⟨g, 0, rfl, fun j hj => ?_⟩⟩
  rw [cell_of_row w g (0 + j) cur e (0, 0) hh]
  have h1 : cur.toList.take (n + 3) = cur.toList := List.take_of_length_le (by simp; omega)
  rw [h1] at ht
  have : cur[0 + j]? = (cur.toList)[j]? := by simp
  rw [this, ht, List.getElem?_append_left (by simpa [hl] using hj), List.getElem?_map, List.getElem?_eq_getElem (by omega)]
  simp [List.getD, hl, hj]
theorem room_keep {w w' : World} {g : Nat} {e : TypeId} {n k : Nat} {vs : List Value} {mark : Value} (h : Room w g e n k vs mark) (hw : w'.heap[g]? = w.heap[g]?) : Room w' g e n k vs mark := by
  obtain ⟨cur, hh, rest⟩ := h
  exact ⟨cur, hw.trans hh, rest⟩
theorem room_lt {w : World} {g : Nat} {e : TypeId} {n k : Nat} {vs : List Value} {mark : Value} (h : Room w g e n k vs mark) : g < w.heap.size := by
  obtain ⟨cur, hh, _⟩ := h
  exact (Array.getElem?_eq_some_iff.1 hh).1
theorem room_below {w w' : World} {g : Nat} {e : TypeId} {n k : Nat} {vs : List Value} {mark : Value} (h : Room w g e n k vs mark) (hb : Below w.heap.size w w') : Room w' g e n k vs mark :=
  room_keep h (hb.block g (room_lt h))

set_option maxHeartbeats 800000 in
theorem kept_any (g : Nat) (b : Option Addr) (n d : Nat) (xs : List Int) (w : World) (hr : Room w g 3 n 3 (xs.map (Value.int .i64)) (.int .i64 (-777))) (hb : Ints .i64 w b n xs) (hn : n ≤ 1000000) :
    Calls Try.prog 19 #[.slice (some ⟨g, 0, none⟩) n (n + 3), .slice b n d] w fun e w' => e = .returned (.bool true) ∧ Below w.heap.size w w' := by
  have H0 := room_ints hr hb.1
  have HM : Hid (∀ k, k < 3 → w.cell? ⟨g, n + k, none⟩ = some (.int .i64 (-777))) := fun k hk => room_mark hr (by simpa using hb.1) hk
  clear hr
  go_enter Try.func19, Try.ntmps19
  go_wp2_with fail
  go_loop [6] (fun i => ∃ k : Nat, k ≤ 3 ∧ i = .int .i64 k) (fun i => 3 - (intOf i).toNat)
  case atStart => exact ⟨0, Nat.zero_le _, rfl⟩
  case round =>
    obtain ⟨k, hk, rfl⟩ := hrel
    by_cases hlt : k < 3
    · have h1 := HM.out k hlt
      go_wp2_with fail
      go_round
      case rel => exact ⟨k + 1, by omega, by go_num⟩
      case measure => simp [intOf]; omega
    · go_wp2_with (go_at_call 12; refine (same_any _ _ n _ _ xs _ H0 hb (by omega)).mono ?_; rintro e w' ⟨rfl, hz⟩)
      go_ret
      exact ⟨rfl, hz⟩
end Go.Proofs.Ythbhbanhgmaopaa
