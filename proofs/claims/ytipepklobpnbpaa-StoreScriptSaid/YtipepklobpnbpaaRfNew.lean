/-
  The contract of the document's own New of frames.
-/
import Derived.Test.YtipepklobpnbpaaRfOpsA
namespace Go.Proofs.Ytipepklobpnbpaa
open Go.ChangeShapes Go.WideShapes Go.ChangeAt Go.RowKit
set_option linter.unusedVariables false
theorem bool_info : (Try.prog.info? 4).map (fun i => (i.zero, i.size, i.bytes)) = some (some (.bool false), 1, 1) := by kernel_rfl
theorem rows_info : (Try.prog.info? 39).map (fun i => (i.zero, i.size, i.bytes)) = some (some (.slice none 0 0), 1, 24) := by kernel_rfl
theorem run_make_bools (w : World) (n : Nat) (h : n ≤ 64) : (Instr.makeSlice 70 (.int .i64 (n : Int)) (.int .i64 (n : Int))).run Try.prog w = .ok (.slice (some ⟨w.heap.size, 0, none⟩) n n) (w.alloc (.cells (madeCells #[.bool false] n) 4)) := by
  obtain ⟨i0, hi0, hz0, hz1, hz2⟩ := info_parts bool_info
  have := run_make (P := Try.prog) w 70 4 i0 _ Try.underlying70 hi0 hz0 .i64 .i64 (n : Int) (n : Int) (by omega) (by omega) (by rw [hz2]; omega) (by omega)
  rw [hz1] at this
  simpa [Value.cells] using this
theorem run_make_rows (w : World) (n : Nat) (h : n ≤ 64) : (Instr.makeSlice 71 (.int .i64 (n : Int)) (.int .i64 (n : Int))).run Try.prog w = .ok (.slice (some ⟨w.heap.size, 0, none⟩) n n) (w.alloc (.cells (madeCells #[.slice none 0 0] n) 39)) := by
  obtain ⟨i0, hi0, hz0, hz1, hz2⟩ := info_parts rows_info
  have := run_make (P := Try.prog) w 71 39 i0 _ Try.underlying71 hi0 hz0 .i64 .i64 (n : Int) (n : Int) (by omega) (by omega) (by rw [hz2]; omega) (by omega)
  rw [hz1] at this
  simpa [Value.cells] using this
theorem tkRow_new {w : World} {t n : Nat} {ty : TypeId} (e : w.heap[t]? = some (.cells (madeCells #[.bool false] n) ty (0, 0))) : TkRow w t n (fun _ => false) := by
  refine ⟨_, ty, e, size_madeCells _ _, fun i hi => ?_⟩
  rw [← Array.getElem?_toList, toList_madeCells_one]
  simp [hi]
theorem byRow_new {w : World} {P : Nat → Prop} {R t b n : Nat} {bt : Nat → Nat → Int} {ty : TypeId} {z : Array Value} (e : w.heap[b]? = some (.cells (madeCells z n) ty (0, 0))) : ByRow w P R t b n (fun _ => false) bt :=
  ⟨_, ty, e, size_madeCells _ _, fun i hi h => by cases h⟩
theorem rf_new {w w0 : World} {P : Nat → Prop} {R t b n : Nat} (hP : ∀ i, P i → i < w.heap.size) (h1 : 1 ≤ n) (h2 : n ≤ 64) (hz : w.heap.size ≤ w0.heap.size) (hR : w.heap.size ≤ R) (ht : w.heap.size ≤ t) (hb : w.heap.size ≤ b) (d1 : R ≠ t) (d2 : R ≠ b) (d3 : t ≠ b)
    (eR : w0.heap[R]? = some (.cells #[.slice (some ⟨t, 0, none⟩) n n, .slice (some ⟨b, 0, none⟩) n n, .slice none 0 0, .int .i64 0] 73 (0, 0))) {z : Array Value} {ty ty' : TypeId}
    (et : w0.heap[t]? = some (.cells (madeCells #[.bool false] n) ty (0, 0))) (eb : w0.heap[b]? = some (.cells (madeCells z n) ty' (0, 0))) : Rf w0 P R t b (St.new n) 0 [] :=
  ⟨good_new h1 h2, by rw [List.append_nil]; rfl, Nat.zero_le _, ⟨_, eR, World.ownsRow_nil _ _ _ _, fun g hg => by cases hg⟩, tkRow_new et, byRow_new eb, fun i hi => Nat.lt_of_lt_of_le (hP i hi) hz,
    (by rintro i (rfl | rfl | rfl) h <;> (have := hP _ h; omega)), d1, d2, d3⟩
theorem rf_firstA (w : World) {n : Nat} (P : Nat → Prop) (hP : ∀ i, P i → i < w.heap.size) (h1 : 1 ≤ n) (h2 : n ≤ 64) : ∃ w0 R t b, w0 = (((w.alloc (.cells (madeCells #[.bool false] n) 4)).alloc (.cells (madeCells #[.slice none 0 0] n) 39)).alloc (.cells #[.slice (some ⟨w.heap.size, 0, none⟩) n n, .slice (some ⟨w.heap.size + 1, 0, none⟩) n n, .slice none 0 0, .int .i64 0] 73)).drew ∧
    R = w.heap.size + 1 + 1 ∧ t = w.heap.size ∧ b = w.heap.size + 1 ∧ Hid (Rf w0 P R t b (St.new n) 0 [] ∧ Below w.heap.size w w0 ∧ ∀ i, RS R t b i → w.heap.size ≤ i) := by
  have z1 : (w.alloc (.cells (madeCells #[.bool false] n) 4)).heap.size = w.heap.size + 1 := by simp
  have z2 : ((w.alloc (.cells (madeCells #[.bool false] n) 4)).alloc (.cells (madeCells #[.slice none 0 0] n) 39)).heap.size = w.heap.size + 1 + 1 := by simp
  have B := below_drewN ((((Below.refl w.heap.size w).alloc (Nat.le_refl _) (.cells (madeCells #[.bool false] n) 4)).alloc (by rw [z1]; omega) (.cells (madeCells #[.slice none 0 0] n) 39)).alloc (by rw [z2]; omega) (.cells #[.slice (some ⟨w.heap.size, 0, none⟩) n n, .slice (some ⟨w.heap.size + 1, 0, none⟩) n n, .slice none 0 0, .int .i64 0] 73)) 1
  refine ⟨_, _, _, _, rfl, rfl, rfl, rfl, rf_new hP h1 h2 B.size (by omega) (by omega) (by omega) (by omega) (by omega) (by omega) ?_ (ty := 4) ?_ (ty' := 39) (z := #[.slice none 0 0]) ?_, B, by rintro i (e | e | e) <;> omega⟩
  · rw [← z2]; exact heap_alloc_new _ _
  · show (World.alloc _ _).heap[_]? = _
    rw [RowKit.Below.heap_alloc _ _ _ (by rw [z2]; omega), RowKit.Below.heap_alloc _ _ _ (by rw [z1]; omega)]
    exact heap_alloc_new _ _
  · show (World.alloc _ _).heap[_]? = _
    rw [RowKit.Below.heap_alloc _ _ _ (by rw [z2]; omega), ← z1]
    exact heap_alloc_new _ _
theorem rf_firstB (w : World) {n : Nat} (P : Nat → Prop) (hP : ∀ i, P i → i < w.heap.size) (h1 : 1 ≤ n) (h2 : n ≤ 64) : ∃ w0 R t b, w0 = (((w.alloc (.cells (madeCells #[.slice none 0 0] n) 39)).alloc (.cells (madeCells #[.bool false] n) 4)).alloc (.cells #[.slice (some ⟨w.heap.size + 1, 0, none⟩) n n, .slice (some ⟨w.heap.size, 0, none⟩) n n, .slice none 0 0, .int .i64 0] 73)).drew ∧
    R = w.heap.size + 1 + 1 ∧ t = w.heap.size + 1 ∧ b = w.heap.size ∧ Hid (Rf w0 P R t b (St.new n) 0 [] ∧ Below w.heap.size w w0 ∧ ∀ i, RS R t b i → w.heap.size ≤ i) := by
  have z1 : (w.alloc (.cells (madeCells #[.slice none 0 0] n) 39)).heap.size = w.heap.size + 1 := by simp
  have z2 : ((w.alloc (.cells (madeCells #[.slice none 0 0] n) 39)).alloc (.cells (madeCells #[.bool false] n) 4)).heap.size = w.heap.size + 1 + 1 := by simp
  have B := below_drewN ((((Below.refl w.heap.size w).alloc (Nat.le_refl _) (.cells (madeCells #[.slice none 0 0] n) 39)).alloc (by rw [z1]; omega) (.cells (madeCells #[.bool false] n) 4)).alloc (by rw [z2]; omega) (.cells #[.slice (some ⟨w.heap.size + 1, 0, none⟩) n n, .slice (some ⟨w.heap.size, 0, none⟩) n n, .slice none 0 0, .int .i64 0] 73)) 1
  refine ⟨_, _, _, _, rfl, rfl, rfl, rfl, rf_new hP h1 h2 B.size (by omega) (by omega) (by omega) (by omega) (by omega) (by omega) ?_ (ty := 4) ?_ (ty' := 39) (z := #[.slice none 0 0]) ?_, B, by rintro i (e | e | e) <;> omega⟩
  · rw [← z2]; exact heap_alloc_new _ _
  · show (World.alloc _ _).heap[_]? = _
    rw [RowKit.Below.heap_alloc _ _ _ (by rw [z2]; omega), ← z1]
    exact heap_alloc_new _ _
  · show (World.alloc _ _).heap[_]? = _
    rw [RowKit.Below.heap_alloc _ _ _ (by rw [z2]; omega), RowKit.Below.heap_alloc _ _ _ (by rw [z1]; omega)]
    exact heap_alloc_new _ _
set_option maxHeartbeats 2000000 in
theorem rnew_ok (w : World) (n : Nat) (h1 : 1 ≤ n) (h2 : n ≤ 64) (P : Nat → Prop) (hP : ∀ i, P i → i < w.heap.size) : Calls Try.prog 13 #[.int .i64 (n : Int)] w fun e w' => ∃ R, e = .returned (.tuple #[.pointer (some ⟨R, 0, none⟩), .int .i64 0]) ∧ ∃ t b, Rf w' P R t b (St.new n) 0 [] ∧ Below w.heap.size w w' ∧ ∀ i, RS R t b i → w.heap.size ≤ i := by
  have x1 : (1 : Int) ≤ (n : Int) := by omega
  have x2 : (n : Int) ≤ 64 := by omega
  have m1 := fun w => run_make_bools w n h2
  have m2 := fun w => run_make_rows w n h2
  have MA := hide (rf_firstA w P hP h1 h2)
  have MB := hide (rf_firstB w P hP h1 h2)
  generalize madeCells #[.bool false] n = ZF at *
  generalize madeCells #[.slice none 0 0] n = ZI at *
  go_enter Try.func13, Try.ntmps13
  go_wp2_with fail
  go_region
  go_wp2_with fail
  all_goals
    go_ret2
    clear m1 m2
    first
      | (obtain ⟨w0, R, t, b, e0, eR, et, eb, M0⟩ := MA.out; rw [← e0]; exact ⟨_, rfl, t, b, eR ▸ M0.out⟩)
      | (obtain ⟨w0, R, t, b, e0, eR, et, eb, M0⟩ := MB.out; rw [← e0]; exact ⟨_, rfl, t, b, eR ▸ M0.out⟩)
end Go.Proofs.Ytipepklobpnbpaa
