/-
  Contracts of what the statements share, for bytes: whether two slices are the same; one written over; one lent out with marked room behind it; whether it is as it was.
-/
import Derived.Test.YtipepklobpnbpaaTouch
import Derived.Deep.QuietTactic
import Derived.BigQuiet
namespace Go.Proofs.Ytipepklobpnbpaa
open Go.ChangeShapes Go.WideShapes Go.ChangeAt Go.RowKit
set_option linter.unusedVariables false
theorem u8_info : (Try.prog.info? 5).map (fun i => (i.zero, i.size, i.bytes)) = some (some (.int .u8 0), 1, 1) := by kernel_rfl
set_option maxHeartbeats 800000 in
theorem same_any (a b : Option Addr) (n c d : Nat) (xs : List Int) (w : World) (ha : Ints .u8 w a n xs) (hb : Ints .u8 w b n xs) (hn : n ≤ 9223372036854775807) :
    Calls Try.prog 22 #[.slice a n c, .slice b n d] w fun e w' => e = .returned (.bool true) ∧ ∃ m, w' = w.drewN m := by
  obtain ⟨hl, hc⟩ := ha
  obtain ⟨_, hd⟩ := hb
  clear hl
  have e0 : ((n : Int) == (n : Int)) = true := by simp
  have e1 : ((n : Int) != (n : Int)) = false := by simp
  go_enter Try.func22, Try.ntmps22
  go_wp2_with fail
  go_loopw [5] (fun i wr => ∃ k : Nat, k ≤ n ∧ i = .int .i64 k ∧ ∃ m, wr = w.drewN m) (fun i _ => n - (intOf i).toNat)
  case atStart => exact ⟨0, Nat.zero_le _, rfl, 0, rfl⟩
  case round =>
    obtain ⟨k, hk, rfl, m, rfl⟩ := hrel
    by_cases hlt : k < n
    · obtain ⟨b1, o1, rfl, hcs⟩ := hc (by omega)
      obtain ⟨b2, o2, rfl, hds⟩ := hd (by omega)
      have h1 := hcs k hlt
      have h2 := hds k hlt
      have e2 : (xs.getD k 0 == xs.getD k 0) = true := by simp
      have e3 : (xs.getD k 0 != xs.getD k 0) = false := by simp
      clear hcs hds hc hd
      generalize xs.getD k 0 = x at *
      go_wp2_with fail
      go_quiet (fail)
      go_wp2_with fail
      go_roundw
      case rel => exact ⟨k + 1, by omega, by go_num, _, rfl⟩
      case measure => simp [intOf]; omega
    · clear hc hd
      go_wp2_with fail
      go_ret
      exact ⟨rfl, _, rfl⟩
theorem same_own (u v : Value) (n : Nat) (xs : List Int) (w : World) {b1 b2 : Nat} (hu : w.ownsRow b1 5 1 u n (xs.map (Value.int .u8))) (hv : w.ownsRow b2 5 1 v n (xs.map (Value.int .u8))) (hn : n ≤ 9223372036854775807) :
    Calls Try.prog 22 #[u, v] w fun e w' => e = .returned (.bool true) ∧ ∃ m, w' = w.drewN m := by
  obtain ⟨A, c, rfl, hi, _⟩ := own_ints hu
  obtain ⟨B, d, rfl, hj, _⟩ := own_ints hv
  exact same_any A B n c d xs w hi hj hn
set_option maxHeartbeats 800000 in
theorem over_any (v : Value) (n : Nat) (xs : List Value) (w : World) {B : Nat} (hv : w.ownsRow B 5 1 v n xs) (hB : B ≤ w.heap.size) (hn : n ≤ 1000000) :
    Calls Try.prog 23 #[v] w fun e w' => e = .returned (.tuple #[]) ∧ Below B w w' := by
  obtain ⟨i0, hi0, hz0, hz1, hz2⟩ := info_parts u8_info
  obtain ⟨a, c, rfl⟩ : ∃ a c, v = .slice a n c := by
    rcases hv.2 with ⟨rfl, rfl⟩ | ⟨g, cap, cur, rfl, _⟩
    · exact ⟨none, 0, rfl⟩
    · exact ⟨_, _, rfl⟩
  go_enter Try.func23, Try.ntmps23
  go_wp2_with fail
  go_loopw [2] (fun i wr => ∃ (k : Nat) (ys : List Value), k ≤ n ∧ i = .int .i64 k ∧ wr.ownsRow B 5 1 (.slice a n c) n ys ∧ Below B w wr) (fun i _ => n - (intOf i).toNat)
  case atStart => exact ⟨0, xs, Nat.zero_le _, rfl, hv, Below.refl _ _⟩
  case round =>
    obtain ⟨k, ys, hk, rfl, ho, hb⟩ := hrel
    by_cases hlt : k < n
    · obtain ⟨g, cap, e⟩ : ∃ g cap, (Value.slice a n c) = .slice (some ⟨g, 0, none⟩) n cap := by
        rcases ho.2 with ⟨_, h⟩ | ⟨g, cap, cur, e, _⟩
        · omega
        · exact ⟨_, _, e⟩
      injection e with e1 _ e2
      subst e1 e2
      have hl : ys.length = n := by have := ho.1; omega
      have hc := ho.cellAt k (by omega)
      rw [List.getElem?_eq_getElem (by omega)] at hc
      have hf := ho.frozenAt k
      have hlo := (ho.lt g rfl).1
      have S := (ho.stored k (.int .u8 238)).1
      have B1 := hb.setCell (p := ⟨g, k, none⟩) hlo (.int .u8 238)
      clear ho hb hv
      go_wp2_with fail
      go_roundw
      case rel => exact ⟨k + 1, _, by omega, by go_num, S, B1⟩
      case measure => simp [intOf]; omega
    · have hb0 : B ≤ wr.heap.size := Nat.le_trans hB hb.size
      clear hv
      go_wp2_with (at_builtin; refine wpList_append_src rfl (.tmp 12) (.tmp 13) _ rfl B 5 i0 _ 1 Try.underlying39 hi0 hz0 hz1 hz2 rfl _ _ _ rfl (ho.alloc _) .u8 _ 1 _ [238] rfl (ints_cell1 _ _ _ _ _ rfl) (fun h => by cases h) (by unfold maxLen; omega) (by omega) (by simp; omega) ?_; intro v' w' o' g' t'; have hr' := (hb.alloc hb0 _).grown g' (by simp; omega) (own_lo ho); clear g' t' ho hb)
      go_end0
      exact ⟨rfl, hr'⟩
/-- Block g is a row of cells: n integers, k marks, and what is left of three. -/
def Room (w : World) (g : Nat) (e : TypeId) (n k : Nat) (vs : List Value) (mark : Value) : Prop :=
  ∃ cur : Array Value, w.heap[g]? = some (.cells cur e (0, 0)) ∧ cur.size = n + 3 ∧ cur.toList.take (n + k) = vs ++ List.replicate k mark
theorem room_cell {w : World} {g : Nat} {e : TypeId} {n k : Nat} {vs : List Value} {mark : Value} (h : Room w g e n k vs mark) (hk : k < 3) :
    (∃ u, w.cell? ⟨g, n + k, none⟩ = some u) ∧ w.frozen? ⟨g, n + k, none⟩ = false := by
  obtain ⟨cur, hh, hs, ht⟩ := h
  refine ⟨⟨cur[n + k], ?_⟩, frozen_of_row w g _ cur e hh⟩
  rw [cell_of_row w g (n + k) cur e (0, 0) hh]
  exact Array.getElem?_eq_getElem (by omega)
theorem room_set {w : World} {g : Nat} {e : TypeId} {n k : Nat} {vs : List Value} {mark : Value} (h : Room w g e n k vs mark) (hl : vs.length = n) (hk : k < 3) :
    Room (w.setCell ⟨g, n + k, none⟩ mark) g e n (k + 1) vs mark := by
  obtain ⟨cur, hh, hs, ht⟩ := h
  refine ⟨cur.setIfInBounds (n + k) mark, heap_setCell_same w g (n + k) cur e mark hh, by simpa using hs, ?_⟩
  rw [Array.toList_setIfInBounds, ← Nat.add_assoc, List.take_succ_eq_append_getElem (by simp; omega), List.take_set_of_le (by omega), ht]
  simp [List.replicate_succ', List.append_assoc]
theorem room_start {w : World} {B g n m : Nat} {e : TypeId} {xs : List Int} {q : IntKind} {mark : Value} (h : w.ownsRow B e 1 (.slice (some ⟨g, 0, none⟩) (0 + n) (n + 3)) m ([] ++ xs.map (Value.int q))) (hl : xs.length = n) :
    Room w g e n 0 (xs.map (Value.int q)) mark := by
  rcases h.2 with ⟨h, _⟩ | ⟨g', cap', cur, h, _, hg, _, _, hcs, ht⟩
  · cases h
  · simp only [Value.slice.injEq, Option.some.injEq, Addr.mk.injEq, and_true] at h
    obtain ⟨rfl, h1, h2⟩ := h
    refine ⟨cur, hg, by omega, ?_⟩
    have : m = n := by have := h.1; simp at this; omega
    subst this
    simpa using ht
set_option maxHeartbeats 800000 in
theorem lend_any (a : Option Addr) (n c : Nat) (xs : List Int) (w : World) (ha : Ints .u8 w a n xs) (na : a = none → c = 0) (hn : n ≤ 1000000) :
    Calls Try.prog 24 #[.slice a n c] w fun e w' => e = .returned (.slice (some ⟨w.heap.size, 0, none⟩) n (n + 3)) ∧
      Room w' w.heap.size 5 n 3 (xs.map (Value.int .u8)) (.int .u8 119) ∧ Below w.heap.size w w' := by
  obtain ⟨i0, hi0, hz0, hz1, hz2⟩ := info_parts u8_info
  have hz3 : i0.bytes * (n + 3) ≤ 281474976710656 := by rw [hz2]; omega
  have HZ := hide hz2
  clear hz2
  go_enter Try.func24, Try.ntmps24
  go_wp2_with (first
    | (at_builtin; refine wpList_append_fits_any _ rfl (.tmp 10) (.tmp 11) _ rfl w.heap.size 5 i0 1 Try.underlying39 hi0 hz1 w.heap.size 0 (n + 3) [] rfl o1 a n c (xs.map (Value.int .u8)) rfl (by simpa using ha.1) (ints_none ha na) (fun ad h => by subst h; exact ints_cells (ha.below b1)) (ints_one _ xs) (by omega) ?_; intro w2 o2 g2)
    | (refine wpList_make_own _ rfl (.const (.int .i64 0)) (.tmp 8) _ rfl w.heap.size 5 i0 _ 1 Try.underlying39 hi0 hz0 hz1 .i64 .i64 _ (n + 3) rfl rfl (by omega) hz3 (by unfold maxLen; omega) (Nat.le_refl _) ?_; intro w1 o1 g1; have b1 := (Below.refl w.heap.size w).grown g1 (Nat.le_refl _) (by simp)))
  have R0 : Room w2 w.heap.size 5 n 0 (xs.map (Value.int .u8)) (.int .u8 119) := room_start o2 ha.1
  have B0 := b1.grown g2 b1.size (by intro k hk; injection hk with hk; omega)
  clear o2 g2 o1 g1 b1
  go_loopw [5] (fun i wr => ∃ k : Nat, k ≤ 3 ∧ i = .int .i64 k ∧ Room wr w.heap.size 5 n k (xs.map (Value.int .u8)) (.int .u8 119) ∧ Below w.heap.size w wr) (fun i _ => 3 - (intOf i).toNat)
  case atStart => exact ⟨0, by omega, rfl, R0, B0⟩
  case round =>
    obtain ⟨k, hk, rfl, hr, hb⟩ := hrel
    by_cases hlt : k < 3
    · obtain ⟨⟨u, hu⟩, hf⟩ := room_cell hr hlt
      have R1 := room_set hr (by simpa using ha.1) hlt
      have B1 := hb.setCell (p := ⟨w.heap.size, n + k, none⟩) (Nat.le_refl _) (.int .u8 119)
      clear hr hb R0 B0
      go_wp2_with fail
      go_roundw
      case rel => exact ⟨k + 1, by omega, by go_num, R1, B1⟩
      case measure => simp [intOf]; omega
    · obtain rfl : k = 3 := by omega
      clear R0 B0
      go_wp2_with fail
      go_ret
      exact ⟨rfl, hr, hb⟩
theorem room_mark {w : World} {g : Nat} {e : TypeId} {n k : Nat} {vs : List Value} {mark : Value} (h : Room w g e n 3 vs mark) (hl : vs.length = n) (hk : k < 3) : w.cell? ⟨g, n + k, none⟩ = some mark := by
  obtain ⟨cur, hh, hs, ht⟩ := h
  rw [cell_of_row w g (n + k) cur e (0, 0) hh]
  have h1 : cur.toList.take (n + 3) = cur.toList := List.take_of_length_le (by simp; omega)
  rw [h1] at ht
  have : cur[n + k]? = (cur.toList)[n + k]? := by simp
  rw [this, ht, List.getElem?_append_right (by omega), hl, List.getElem?_replicate]
  simp; omega
theorem room_ints {w : World} {g : Nat} {e : TypeId} {n : Nat} {xs : List Int} {q : IntKind} {mark : Value} (h : Room w g e n 3 (xs.map (Value.int q)) mark) (hl : xs.length = n) : Ints q w (some ⟨g, 0, none⟩) n xs := by
  obtain ⟨cur, hh, hs, ht⟩ := h
  refine ⟨hl, fun _ => ⟨g, 0, rfl, fun j hj => ?_⟩⟩
  rw [cell_of_row w g (0 + j) cur e (0, 0) hh]
  have h1 : cur.toList.take (n + 3) = cur.toList := List.take_of_length_le (by simp; omega)
  rw [h1] at ht
  have : cur[0 + j]? = (cur.toList)[j]? := by simp
  rw [this, ht, List.getElem?_append_left (by simpa [hl] using hj), List.getElem?_map, List.getElem?_eq_getElem (by omega)]
  simp [List.getD, hl, hj]
theorem room_own {w : World} {g : Nat} {e : TypeId} {n : Nat} {vs : List Value} {mark : Value} (h : Room w g e n 3 vs mark) (hl : vs.length = n) (hm : n ≤ 1000000) {B : Nat} (hB : B ≤ g) : w.ownsRow B e 1 (.slice (some ⟨g, 0, none⟩) n (n + 3)) n vs := by
  obtain ⟨cur, hh, hs, ht⟩ := h
  refine ⟨by omega, .inr ⟨g, n + 3, cur, rfl, hB, hh, by omega, by unfold maxLen; omega, by omega, ?_⟩⟩
  have h1 := congrArg (List.take n) ht
  rw [List.take_take, List.take_append_of_le_length (by omega), List.take_of_length_le (l := vs) (by omega)] at h1
  rw [← h1]; congr 1; omega
theorem room_keep {w w' : World} {g : Nat} {e : TypeId} {n k : Nat} {vs : List Value} {mark : Value} (h : Room w g e n k vs mark) (hw : w'.heap[g]? = w.heap[g]?) : Room w' g e n k vs mark := by
  obtain ⟨cur, hh, rest⟩ := h
  exact ⟨cur, hw.trans hh, rest⟩
theorem room_lt {w : World} {g : Nat} {e : TypeId} {n k : Nat} {vs : List Value} {mark : Value} (h : Room w g e n k vs mark) : g < w.heap.size := by
  obtain ⟨cur, hh, _⟩ := h
  exact (Array.getElem?_eq_some_iff.1 hh).1
theorem room_touch {S : Nat → Prop} {w w' : World} {g : Nat} {e : TypeId} {n k : Nat} {vs : List Value} {mark : Value} (h : Room w g e n k vs mark) (t : Touch S w w') (d : ¬ S g) : Room w' g e n k vs mark :=
  room_keep h (t.block g (room_lt h) d)
set_option maxHeartbeats 800000 in
theorem kept_any (g : Nat) (b : Option Addr) (n d : Nat) (xs : List Int) (w : World) (hr : Room w g 5 n 3 (xs.map (Value.int .u8)) (.int .u8 119)) (hb : Ints .u8 w b n xs) (hn : n ≤ 1000000) :
    Calls Try.prog 27 #[.slice (some ⟨g, 0, none⟩) n (n + 3), .slice b n d] w fun e w' => e = .returned (.bool true) ∧ ∃ m, w' = w.drewN m := by
  have H0 := room_ints hr hb.1
  have HM : Hid (∀ k, k < 3 → w.cell? ⟨g, n + k, none⟩ = some (.int .u8 119)) := fun k hk => room_mark hr (by simpa using hb.1) hk
  clear hr
  go_enter Try.func27, Try.ntmps27
  go_wp2_with fail
  go_loop [6] (fun i => ∃ k : Nat, k ≤ 3 ∧ i = .int .i64 k) (fun i => 3 - (intOf i).toNat)
  case atStart => exact ⟨0, Nat.zero_le _, rfl⟩
  case round =>
    obtain ⟨k, hk, rfl⟩ := hrel
    by_cases hlt : k < 3
    · have h1 := HM.out k hlt
      go_wp2_with fail
      go_round
      case rel => exact ⟨k + 1, by omega, by go_num⟩
      case measure => simp [intOf]; omega
    · go_wp2_with (go_at_call 22; refine (same_any _ _ n _ _ xs _ H0 hb (by omega)).mono ?_; rintro e w' ⟨rfl, hz⟩)
      go_ret
      exact ⟨rfl, hz⟩
end Go.Proofs.Ytipepklobpnbpaa
