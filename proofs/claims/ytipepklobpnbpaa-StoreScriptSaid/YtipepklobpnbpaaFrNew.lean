/-
  The contract of the program's frames' New.
-/
import Derived.Test.YtipepklobpnbpaaFrOpsE
namespace Go.Proofs.Ytipepklobpnbpaa
open Go.ChangeShapes Go.WideShapes Go.ChangeAt Go.RowKit
set_option linter.unusedVariables false
/-- The first k of n - 1, n - 2, .. -/
def fallen (n k : Nat) : List Nat := (List.range k).map fun j => n - 1 - j
theorem fallen_len (n k : Nat) : (fallen n k).length = k := by simp [fallen]
theorem fallen_succ (n k : Nat) : fallen n (k + 1) = fallen n k ++ [n - 1 - k] := by simp [fallen, List.range_succ]
theorem fallen_mem {n k i : Nat} (h : k ≤ n) : i ∈ fallen n k ↔ n - k ≤ i ∧ i < n := by
  unfold fallen
  rw [List.mem_map]
  constructor
  · rintro ⟨j, hj, rfl⟩
    rw [List.mem_range] at hj
    omega
  · intro hi
    exact ⟨n - 1 - i, List.mem_range.2 (by omega), by omega⟩
theorem fallen_nodup {n k : Nat} (h : k ≤ n) : (fallen n k).Nodup := by
  induction k with
  | zero => exact List.nodup_nil
  | succ k ih =>
    rw [fallen_succ, List.nodup_append]
    refine ⟨ih (by omega), by simp, fun a ha b hb e => ?_⟩
    rw [List.mem_singleton] at hb
    subst hb; subst e
    have := (fallen_mem (by omega : k ≤ n)).1 ha
    omega
/-- Frames of which none was ever taken. -/
def St.new (n : Nat) : St := ⟨n, fun _ => false, fun _ _ => 0, fallen n n⟩
theorem good_new {n : Nat} (h1 : 1 ≤ n) (h2 : n ≤ 64) : Good (St.new n) :=
  ⟨h1, h2, fallen_nodup (Nat.le_refl n), fun i hi => ⟨fun _ => rfl, fun _ => (fallen_mem (Nat.le_refl n)).2 ⟨by omega, hi⟩⟩, fun i hi => ((fallen_mem (Nat.le_refl n)).1 hi).2, fun _ _ _ _ _ => rfl, fun _ _ _ _ => ⟨Int.le_refl 0, (by decide : (0 : Int) ≤ 255)⟩⟩
theorem new_arg (w : World) (n : Int) (h : n < 1 ∨ 64 < n) : Calls Try.prog 12 #[.int .i64 n] w fun e w' => e = .returned (.tuple #[.pointer none, .int .i64 2]) ∧ w = w' := by
  by_cases h1 : n < 1
  · go_enter Try.func12, Try.ntmps12
    go_wp2_with fail
    go_ret2
    exact ⟨rfl, rfl⟩
  · have h2 : 64 < n := by omega
    go_enter Try.func12, Try.ntmps12
    go_wp2_with fail
    go_ret2
    exact ⟨rfl, rfl⟩
theorem run_make_frames (w : World) (n : Nat) (h : n ≤ 64) : (Instr.makeSlice 66 (.int .i64 (n : Int)) (.int .i64 (n : Int))).run Try.prog w = .ok (.slice (some ⟨w.heap.size, 0, none⟩) n n) (w.alloc (.cells (madeCells zeroF (n * 65)) 94)) := by
  obtain ⟨i0, hi0, hz0, hz1, hz2⟩ := info_parts frame_info
  have := run_make (P := Try.prog) w 66 94 i0 _ Try.underlying66 hi0 hz0 .i64 .i64 (n : Int) (n : Int) (by omega) (by omega) (by rw [hz2]; omega) (by omega)
  rw [hz1] at this
  simpa [Value.cells] using this
theorem run_make_free (w : World) (n : Nat) (h : n ≤ 64) : (Instr.makeSlice 67 (.int .i64 0) (.int .i64 (n : Int))).run Try.prog w = .ok (.slice (some ⟨w.heap.size, 0, none⟩) 0 n) (w.alloc (.cells (madeCells #[.int .i64 0] n) 3)) := by
  obtain ⟨i0, hi0, hz0, hz1, hz2⟩ := info_parts int_info
  have := run_make (P := Try.prog) w 67 3 i0 _ Try.underlying67 hi0 hz0 .i64 .i64 0 (n : Int) (by omega) (by omega) (by rw [hz2]; omega) (by omega)
  rw [hz1] at this
  simpa [Value.cells] using this
theorem made_at (n i : Nat) (h : i < n * 65) : (madeCells zeroF (n * 65)).toList[i]? = zeroF.toList[i % 65]? := by
  have hz : zeroF.toList.length = 65 := by rw [Array.length_toList]; exact zeroF_size
  have hm : i % 65 < zeroF.toList.length := by rw [hz]; exact Nat.mod_lt _ (by omega)
  have h2 : i % 65 < zeroF.size := by rw [zeroF_size]; exact Nat.mod_lt _ (by omega)
  unfold madeCells
  rw [Array.toList_map, List.getElem?_map]
  simp only [Array.toList_range, List.getElem?_range h, Option.map_some, zeroF_size]
  rw [List.getElem?_eq_getElem hm]
  simp [h2]
theorem rowF_new {w : World} {A n : Nat} (e : w.heap[A]? = some (.cells (madeCells zeroF (n * 65)) 94 (0, 0))) : RowF w A (St.new n) := by
  refine ⟨(madeCells zeroF (n * 65)).toList, by simpa using e, by rw [Array.length_toList]; exact size_madeCells _ _, fun i hi => ?_⟩
  have hi : i < n := hi
  constructor
  · rw [made_at n _ (by omega), Nat.mul_mod_left]; exact zeroF_0
  · intro j hj
    rw [made_at n _ (by omega), show (i * 65 + (1 + j)) % 65 = 1 + j by omega]; exact zeroF_j j hj
/-- Frames under way: k of the free ones stand in their list. -/
structure Mk (w : World) (H A Q n k : Nat) : Prop where
  head : w.heap[H]? = some (.cells #[.slice (some ⟨A, 0, none⟩) n n, .slice (some ⟨Q, 0, none⟩) k n] 69 (0, 0))
  row : RowF w A (St.new n)
  free : w.ownsRow 0 3 1 (.slice (some ⟨Q, 0, none⟩) k n) k ((nums (fallen n k)).map (Value.int .i64))
  ha : H ≠ A
  hq : H ≠ Q
  aq : A ≠ Q
theorem Mk.done {w : World} {H A Q n : Nat} (h : Mk w H A Q n n) (h1 : 1 ≤ n) (h2 : n ≤ 64) : Fr w H A Q (St.new n) := by
  have e : (St.new n).fr.length = n := fallen_len n n
  refine ⟨good_new h1 h2, ?_, h.row, ?_, h.ha, h.hq, h.aq⟩
  · rw [e]; exact h.head
  · rw [e]; exact h.free
theorem Mk.firstA (w : World) {n : Nat} (hm : n ≤ maxLen) : ∃ w0 H A Q, w0 = (((w.alloc (.cells (madeCells zeroF (n * 65)) 94)).alloc (.cells (madeCells #[.int .i64 0] n) 3)).alloc (.cells #[.slice (some ⟨w.heap.size, 0, none⟩) n n, .slice (some ⟨w.heap.size + 1, 0, none⟩) 0 n] 69)).drew ∧
    H = w.heap.size + 1 + 1 ∧ A = w.heap.size ∧ Q = w.heap.size + 1 ∧ Hid (Mk w0 H A Q n 0 ∧ Below w.heap.size w w0 ∧ ∀ i, Blk H A Q i → w.heap.size ≤ i) := by
  have z1 : (w.alloc (.cells (madeCells zeroF (n * 65)) 94)).heap.size = w.heap.size + 1 := by simp
  have z2 : ((w.alloc (.cells (madeCells zeroF (n * 65)) 94)).alloc (.cells (madeCells #[.int .i64 0] n) 3)).heap.size = w.heap.size + 1 + 1 := by simp
  refine ⟨_, _, _, _, rfl, rfl, rfl, rfl, ⟨?_, rowF_new ?_, ?_, by omega, by omega, by omega⟩, below_drewN ((((Below.refl _ _).alloc (Nat.le_refl _) _).alloc (by rw [z1]; omega) _).alloc (by rw [z2]; omega) _) 1, by rintro i (e | e | e) <;> omega⟩
  · rw [← z2]; exact heap_alloc_new _ _
  · show (World.alloc _ _).heap[_]? = _
    rw [RowKit.Below.heap_alloc _ _ _ (by rw [z2]; omega), RowKit.Below.heap_alloc _ _ _ (by rw [z1]; omega)]
    exact heap_alloc_new _ _
  · have := World.ownsRow_made (w.alloc (.cells (madeCells zeroF (n * 65)) 94)) (base := 0) (size := 1) (e := 3) (madeCells #[.int .i64 0] n) n (Nat.zero_le _) hm (by rw [size_madeCells]; omega)
    rw [z1] at this
    exact (this.alloc _).drew
theorem Mk.firstB (w : World) {n : Nat} (hm : n ≤ maxLen) : ∃ w0 H A Q, w0 = (((w.alloc (.cells (madeCells #[.int .i64 0] n) 3)).alloc (.cells (madeCells zeroF (n * 65)) 94)).alloc (.cells #[.slice (some ⟨w.heap.size + 1, 0, none⟩) n n, .slice (some ⟨w.heap.size, 0, none⟩) 0 n] 69)).drew ∧
    H = w.heap.size + 1 + 1 ∧ A = w.heap.size + 1 ∧ Q = w.heap.size ∧ Hid (Mk w0 H A Q n 0 ∧ Below w.heap.size w w0 ∧ ∀ i, Blk H A Q i → w.heap.size ≤ i) := by
  have z1 : (w.alloc (.cells (madeCells #[.int .i64 0] n) 3)).heap.size = w.heap.size + 1 := by simp
  have z2 : ((w.alloc (.cells (madeCells #[.int .i64 0] n) 3)).alloc (.cells (madeCells zeroF (n * 65)) 94)).heap.size = w.heap.size + 1 + 1 := by simp
  refine ⟨_, _, _, _, rfl, rfl, rfl, rfl, ⟨?_, rowF_new ?_, ?_, by omega, by omega, by omega⟩, below_drewN ((((Below.refl _ _).alloc (Nat.le_refl _) _).alloc (by rw [z1]; omega) _).alloc (by rw [z2]; omega) _) 1, by rintro i (e | e | e) <;> omega⟩
  · rw [← z2]; exact heap_alloc_new _ _
  · show (World.alloc _ _).heap[_]? = _
    rw [RowKit.Below.heap_alloc _ _ _ (by rw [z2]; omega), ← z1]
    exact heap_alloc_new _ _
  · exact (((World.ownsRow_made w (base := 0) (size := 1) (e := 3) (madeCells #[.int .i64 0] n) n (Nat.zero_le _) hm (by rw [size_madeCells]; omega)).alloc _).alloc _).drew
theorem Mk.next {w w2 : World} {H A Q n k : Nat} (h : Mk w H A Q n k) {o : Obj} (hk : k < n)
    (o2 : w2.ownsRow 0 3 1 (.slice (some ⟨Q, 0, none⟩) (k + 1) n) (k + 1) ((nums (fallen n k)).map (Value.int .i64) ++ [.int .i64 ((n - 1 - k : Nat) : Int)])) (g2 : (w.alloc o).grownBy w2 (some Q)) :
    Mk (w2.setCell ⟨H, 1, none⟩ (.slice (some ⟨Q, 0, none⟩) (k + 1) n)) H A Q n (k + 1) ∧ Touch (Blk H A Q) w (w2.setCell ⟨H, 1, none⟩ (.slice (some ⟨Q, 0, none⟩) (k + 1) n)) := by
  have tq : Touch (fun k => k = Q) w w2 := ((Touch.refl (fun k => k = Q) w).alloc o).trans (Touch.of_grown (S := fun k => k = Q) g2 (fun g e => by injection e with e; exact e.symm)) (fun _ e => .inl e)
  obtain ⟨cur, r1, r2, r3⟩ := h.row
  have eA : w2.heap[A]? = w.heap[A]? := tq.block A (lt_of_heap r1) h.aq
  have eH : w2.heap[H]? = w.heap[H]? := tq.block H (lt_of_heap h.head) h.hq
  refine ⟨⟨?_, ?_, ?_, h.ha, h.hq, h.aq⟩, (tq.mono (S' := Blk H A Q) (fun k e => .inr (.inr e))).setCell (p := ⟨H, 1, none⟩) (.inl rfl) _⟩
  · rw [heap_setCell_same _ _ _ _ _ _ (eH.trans h.head)]; rfl
  · exact (h.row.keep eA).keep (heap_setCell_other _ _ _ _ (Ne.symm h.ha))
  · have e4 : (nums (fallen n (k + 1))).map (Value.int .i64) = (nums (fallen n k)).map (Value.int .i64) ++ [Value.int .i64 ((n - 1 - k : Nat) : Int)] := by rw [fallen_succ]; simp [nums]
    rw [e4]
    have t3 : Touch (fun k => k = H) w2 (w2.setCell ⟨H, 1, none⟩ (.slice (some ⟨Q, 0, none⟩) (k + 1) n)) := (Touch.refl (fun k => k = H) w2).setCell (p := ⟨H, 1, none⟩) rfl _
    refine t3.own o2 (fun g hg e => ?_)
    injection hg with hg
    exact h.hq (by rw [← e, ← hg])
set_option maxHeartbeats 2000000 in
theorem new_ok (w : World) (n : Nat) (h1 : 1 ≤ n) (h2 : n ≤ 64) : Calls Try.prog 12 #[.int .i64 (n : Int)] w fun e w' => ∃ H A Q, e = .returned (.tuple #[.pointer (some ⟨H, 0, none⟩), .int .i64 0]) ∧ Fr w' H A Q (St.new n) ∧ Below w.heap.size w w' ∧ ∀ i, Blk H A Q i → w.heap.size ≤ i := by
  obtain ⟨i0, hi0, hz0, hz1, hz2⟩ := info_parts int_info
  have x1 : (1 : Int) ≤ (n : Int) := by omega
  have x2 : (n : Int) ≤ 64 := by omega
  have m1 := fun w => run_make_frames w n h2
  have m2 := fun w => run_make_free w n h2
  have MA := hide (Mk.firstA w (n := n) (by unfold maxLen; omega))
  have MB := hide (Mk.firstB w (n := n) (by unfold maxLen; omega))
  generalize madeCells zeroF (n * 65) = ZF at *
  generalize madeCells #[.int .i64 0] n = ZI at *
  go_enter Try.func12, Try.ntmps12
  go_wp2_with fail
  go_region
  go_wp2_with fail
  all_goals
    clear m1 m2
    first
      | (obtain ⟨w0, H, A, Q, e0, eH, eA, eQ, M0⟩ := MA.out; rw [← e0, ← eH, ← eQ, ← eA])
      | (obtain ⟨w0, H, A, Q, e0, eH, eA, eQ, M0⟩ := MB.out; rw [← e0, ← eH, ← eA, ← eQ])
    clear e0 eH eA eQ MA MB
    go_loopw [5] (fun i wr => ∃ (k : Nat) (z : Int), k ≤ n ∧ z = (n : Int) - 1 - (k : Int) ∧ i = .int .i64 z ∧ Hid (Mk wr H A Q n k ∧ Below w.heap.size w wr ∧ ∀ i, Blk H A Q i → w.heap.size ≤ i)) (fun i _ => (intOf i + 1).toNat)
    case atStart => exact ⟨0, (n : Int) - 1, Nat.zero_le _, by omega, rfl, M0⟩
    case round =>
      obtain ⟨k, z, hk, hz, rfl, hR⟩ := hrel
      clear M0
      by_cases hlt : k < n
      · have hh := hR.out.1.head
        have c1 : wr.cell? ⟨H, 1, none⟩ = some (.slice (some ⟨Q, 0, none⟩) k n) := by rw [cell_of_row _ _ _ _ _ _ hh]; rfl
        have lH := lt_of_heap hh
        have f1 := frozen_of_row wr H 1 _ _ hh
        have hq := hR.out.1.hq
        have x3 : (0 : Int) ≤ z := by omega
        have x4 : z = ((n - 1 - k : Nat) : Int) := by omega
        have X4 := hide x4
        have HZ := hide hz
        have x5 : z ≤ 64 := by omega
        clear x4 hz
        clear hh
        go_wp2_with (at_builtin; refine wpList_append_fits _ rfl (.tmp 28) (.tmp 30) _ rfl 0 3 i0 1 Try.underlying67 hi0 hz1 Q k n _ rfl (hR.out.1.free.alloc _) _ 1 1 [.int .i64 ((n - 1 - k : Nat) : Int)] rfl rfl (by rw [← X4.out]; exact cell_one_new _ _ _) (by intro u hu; rw [List.mem_singleton] at hu; rw [hu]; rfl) (by omega) ?_; intro w2 o2 g2; have k2 := g2.cell (a := ⟨H, 1, none⟩) (v := .slice (some ⟨Q, 0, none⟩) k n) (by rw [World.cell?_alloc_past _ _ _ lH]; exact c1) (fun e => hq (by injection e)); have z2 : w2.frozen? ⟨H, 1, none⟩ = false := (World.frozen?_of_block ((g2.block H (by simp; omega) (fun e => hq (by injection e))).trans (RowKit.Below.heap_alloc wr _ _ lH))).trans f1; have FG := hide (hR.out.1.next hlt o2 g2); clear o2 g2)
        go_roundw
        case rel => exact ⟨k + 1, z - 1, by omega, by have := HZ.out; omega, by go_num, FG.out.1, hR.out.2.1.trans (FG.out.2.below hR.out.2.1.size hR.out.2.2), hR.out.2.2⟩
        case measure => have := HZ.out; simp [intOf]; omega
      · obtain rfl : k = n := by omega
        have x3 : ¬ (0 : Int) ≤ z := by omega
        go_wp2_with fail
        go_ret2
        exact ⟨H, rfl, A, Q, hR.out.1.done h1 h2, hR.out.2⟩
end Go.Proofs.Ytipepklobpnbpaa
