/-
  The program's slab's Take.
-/
import Derived.Test.YtllapjidnngaeaaPsGive
namespace Go.Proofs.Ytllapjidnngaeaa
open Go.ChangeShapes Go.WideShapes Go.ChangeAt Go.RowKit
set_option linter.unusedVariables false
theorem func_not_nil (H : Nat) (w : World) : (binOp .eql 66 (.func (.func 25) #[.pointer (some ⟨H, 0, none⟩)] #[]) .nilFunc).run Try.prog w = .ok (.bool false) w := by kernel_rfl
theorem stake_arg {w : World} {S H : Nat} {T : Nat → Cu} (h : RowS w S H T) (n : Int) (hn : (Lit.int .i64 n).wf = true) (hc : cls n = 0) :
    Calls Try.prog 10 #[.pointer (some ⟨S, 0, none⟩), .int .i64 n] w fun e w' => e = .returned (.tuple #[refV 0 0 0, .int .i64 2]) ∧ Below w.heap.size w w' := by
  have b0 := (Below.refl w.heap.size w).alloc (Nat.le_refl _) (.cells #[.int .i64 0, .int .i64 0, .int .i64 0] 39)
  have nf := func_not_nil H
  have st := (show RowS _ S H T from (b0.block S (lt_of_heap h)).trans h).take
  have hc' : ((cls n : Nat) : Int) = 0 := by rw [hc]; rfl
  clear h
  unfold refV
  go_enter Try.func10, Try.ntmps10
  go_wp2_with (go_at_call 22; with_reducible refine (class_any _ _ hn).mono ?_; rintro e w' ⟨rfl, rfl⟩; rw [hc'])
  exact bodyPost_ret (v := .tuple #[.agg #[.int .i64 0, .int .i64 0, .int .i64 0], .int .i64 2]) (by simp [results, Try.results10, go_sem]) rfl ⟨rfl, b0⟩
set_option maxRecDepth 10000 in
set_option maxHeartbeats 4000000 in
theorem stake_old {w : World} {S H : Nat} {T : Nat → Cu} (h : RowS w S H T) (n : Int) (hn : (Lit.int .i64 n).wf = true) (c i0 k0 : Nat) (hc : cls n = c) (hcc : c = 16 ∨ c = 32 ∨ c = 64) (hi : i0 < 64) (hk : k0 < 64 / c) (hcl : (T i0).c = c) (hfree : (T i0).tk k0 = false) (htk : ∀ j, j < k0 → (T i0).tk j = true) (hfull : ∀ j, j < i0 → Full (T j) c (64 / c)) :
    Calls Try.prog 10 #[.pointer (some ⟨S, 0, none⟩), .int .i64 n] w fun e w' => e = .returned (.tuple #[refV i0 k0 c, .int .i64 0]) ∧ RowS w' S H (upd T i0 ((T i0).put k0 true)) ∧ Touch (fun i => i = S) w w' := by
  have b0 := (Below.refl w.heap.size w).alloc (Nat.le_refl _) (.cells #[.int .i64 0, .int .i64 0, .int .i64 0] 39)
  have HH := hide (show RowS _ S H T from (b0.block S (lt_of_heap h)).trans h)
  have HX := hide (heap_alloc_new w (.cells #[.int .i64 0, .int .i64 0, .int .i64 0] 39))
  have B0 := hide b0
  have SX := hide (lt_of_heap h)
  have nf := func_not_nil H
  have st := HH.out.take
  have hc' : ((cls n : Nat) : Int) = (c : Int) := by rw [hc]
  have cne : ¬ (c : Int) = 0 := by omega
  have k4 : k0 < 4 := slot_lt hcc hk
  have SP := hide fun w' (b : Below (w.alloc (.cells #[.int .i64 0, .int .i64 0, .int .i64 0] 39)).heap.size (w.alloc (.cells #[.int .i64 0, .int .i64 0, .int .i64 0] 39)) w') => spare_some (HH.out.keep (b.block S (lt_of_heap HH.out))) c i0 k0 hcc hi hk hcl hfree htk hfull
  clear h b0 hc hcc hk hcl htk hfull
  unfold refV
  obtain ⟨u, hu⟩ : ∃ u, u = (T i0).put k0 true := ⟨_, rfl⟩
  rw [← hu]
  have HU := hide hu
  clear hu
  go_enter Try.func10, Try.ntmps10
  go_upto_region 6 with (go_at_call 22; with_reducible refine (class_any _ _ hn).mono ?_; rintro e w' ⟨rfl, rfl⟩; rw [hc'])
  clear st
  generalize w.alloc (.cells #[.int .i64 0, .int .i64 0, .int .i64 0] 39) = w0 at *
  obtain ⟨X, hX⟩ : ∃ X, X = w.heap.size := ⟨_, rfl⟩
  rw [← hX] at HX SX ⊢
  have EX := hide hX
  clear hX
  go_upto_region 7 with (go_at_call 27; refine (SP.out _ (Below.refl _ _)).mono ?_; rintro e w1 ⟨rfl, hb⟩; have HB := hide hb; clear hb; unfold refV)
  have bA := (Below.refl w1.heap.size w1).alloc (Nat.le_refl _) (.cells #[.int .i64 (i0 : Int), .int .i64 (k0 : Int), .int .i64 (c : Int)] 39)
  have B2 := hide (B0.out.trans ((HB.out.mono B0.out.size).trans (bA.mono (Nat.le_trans B0.out.size HB.out.size))))
  have R2 := hide (show RowS (w1.alloc (.cells #[.int .i64 (i0 : Int), .int .i64 (k0 : Int), .int .i64 (c : Int)] 39)) S H T from HH.out.keep ((bA.block S (Nat.lt_of_lt_of_le (lt_of_heap HH.out) HB.out.size)).trans (HB.out.block S (lt_of_heap HH.out))))
  have X2 := hide ((bA.block X (Nat.lt_of_lt_of_le (lt_of_heap HX.out) HB.out.size)).trans ((HB.out.block X (lt_of_heap HX.out)).trans HX.out))
  have Z2 := hide (heap_alloc_new w1 (.cells #[.int .i64 (i0 : Int), .int .i64 (k0 : Int), .int .i64 (c : Int)] 39))
  have XZ := hide (show X < w1.heap.size from Nat.lt_of_lt_of_le (lt_of_heap HX.out) HB.out.size)
  clear bA
  generalize w1.alloc (.cells #[.int .i64 (i0 : Int), .int .i64 (k0 : Int), .int .i64 (c : Int)] 39) = w2 at *
  generalize w1.heap.size = Z at *
  go_upto_region 13 with fail
  obtain ⟨z0, z1, z2⟩ : w2.cell? ⟨Z, 0, none⟩ = some (.int .i64 (i0 : Int)) ∧ w2.cell? ⟨Z, 1, none⟩ = some (.int .i64 (k0 : Int)) ∧ w2.cell? ⟨Z, 2, none⟩ = some (.int .i64 (c : Int)) := by
    refine ⟨?_, ?_, ?_⟩ <;> (rw [cell_of_row _ _ _ _ _ _ Z2.out]; rfl)
  have sq : w2.cell? ⟨S, 2 + i0 * 5 + 1 + k0, none⟩ = some (.bool ((T i0).tk k0)) := by
    have := R2.out.cut (1 + k0) hi (by omega)
    rw [cellsE_tk _ _ k4, ← Nat.add_assoc] at this
    exact this
  have fq := R2.out.frozen (2 + i0 * 5 + 1 + k0)
  have R3 := hide (show RowS (w2.setCell ⟨S, 2 + i0 * 5 + 1 + k0, none⟩ (.bool true)).drew S H (upd T i0 u) from HU.out ▸ R2.out.put hi k4 true)
  have TS := ((Touch.refl (fun i => i = S) w2).setCell (p := ⟨S, 2 + i0 * 5 + 1 + k0, none⟩) rfl (.bool true)).drewN 1
  have T3 := hide (show Touch (fun i => i = S) w (w2.setCell ⟨S, 2 + i0 * 5 + 1 + k0, none⟩ (.bool true)).drew from (Touch.of_below B2.out).trans TS (fun i e => .inl e))
  have X3 := hide (show (w2.setCell ⟨S, 2 + i0 * 5 + 1 + k0, none⟩ (.bool true)).drew.heap[X]? = _ from (TS.block X (lt_of_heap X2.out) (by have := SX.out; show X ≠ S; omega)).trans X2.out)
  have Z3 := hide (show (w2.setCell ⟨S, 2 + i0 * 5 + 1 + k0, none⟩ (.bool true)).drew.heap[Z]? = _ from (TS.block Z (lt_of_heap Z2.out) (by have := SX.out; have := XZ.out; show Z ≠ S; omega)).trans Z2.out)
  have i0' : (0 : Int) ≤ (i0 : Int) := by omega
  have i1' : (i0 : Int) < 64 := by omega
  have k0' : (0 : Int) ≤ (k0 : Int) := by omega
  have k1' : (k0 : Int) < 4 := by omega
  clear TS
  go_region
  clear z0 z1 z2 sq fq R2 X2 Z2
  generalize (w2.setCell ⟨S, 2 + i0 * 5 + 1 + k0, none⟩ (.bool true)).drew = w3 at *
  obtain ⟨z0, z1, z2⟩ : w3.cell? ⟨Z, 0, none⟩ = some (.int .i64 (i0 : Int)) ∧ w3.cell? ⟨Z, 1, none⟩ = some (.int .i64 (k0 : Int)) ∧ w3.cell? ⟨Z, 2, none⟩ = some (.int .i64 (c : Int)) := by
    refine ⟨?_, ?_, ?_⟩ <;> (rw [cell_of_row _ _ _ _ _ _ Z3.out]; rfl)
  have x0 : w3.cell? ⟨X, 0, none⟩ = some (.int .i64 0) := by rw [cell_of_row _ _ _ _ _ _ X3.out]; rfl
  have x1 : w3.cell? ⟨X, 1, none⟩ = some (.int .i64 0) := by rw [cell_of_row _ _ _ _ _ _ X3.out]; rfl
  have x2 : w3.cell? ⟨X, 2, none⟩ = some (.int .i64 0) := by rw [cell_of_row _ _ _ _ _ _ X3.out]; rfl
  have xf0 : w3.frozen? ⟨X, 0, none⟩ = false := frozen_of_row _ _ _ _ _ X3.out
  have xf1 : w3.frozen? ⟨X, 1, none⟩ = false := frozen_of_row _ _ _ _ _ X3.out
  have xf2 : w3.frozen? ⟨X, 2, none⟩ = false := frozen_of_row _ _ _ _ _ X3.out
  go_wp2_with fail
  have hx3 := three_set (x := .int .i64 (i0 : Int)) (y := .int .i64 (k0 : Int)) (z := .int .i64 (c : Int)) X3.out
  have tx := three_touch (w := w3) (X := X) (x := .int .i64 (i0 : Int)) (y := .int .i64 (k0 : Int)) (z := .int .i64 (c : Int))
  generalize ((w3.setCell ⟨X, 0, none⟩ (.int .i64 (i0 : Int))).setCell ⟨X, 1, none⟩ (.int .i64 (k0 : Int))).setCell ⟨X, 2, none⟩ (.int .i64 (c : Int)) = W5 at *
  have y0 : W5.cell? ⟨X, 0, none⟩ = some (.int .i64 (i0 : Int)) := by rw [cell_of_row _ _ _ _ _ _ hx3]; rfl
  have y1 : W5.cell? ⟨X, 1, none⟩ = some (.int .i64 (k0 : Int)) := by rw [cell_of_row _ _ _ _ _ _ hx3]; rfl
  have y2 : W5.cell? ⟨X, 2, none⟩ = some (.int .i64 (c : Int)) := by rw [cell_of_row _ _ _ _ _ _ hx3]; rfl
  have R5 : RowS W5 S H (upd T i0 u) := R3.out.keep (tx.block S (lt_of_heap R3.out) (by have := SX.out; show S ≠ X; omega))
  have T5 : Touch (fun i => i = S) w W5 := ⟨tx.os.trans T3.out.os, tx.tape.trans T3.out.tape, tx.output.trans T3.out.output, Nat.le_trans T3.out.size tx.size, fun i h1 h2 => (tx.block i (Nat.lt_of_lt_of_le h1 T3.out.size) (by have := EX.out; show i ≠ X; omega)).trans (T3.out.block i h1 h2)⟩
  exact bodyPost_ret (v := .tuple #[.agg #[.int .i64 (i0 : Int), .int .i64 (k0 : Int), .int .i64 (c : Int)], .int .i64 0]) (by simp [results, Try.results10, go_sem, y0, y1, y2]) rfl ⟨rfl, R5, T5⟩
end Go.Proofs.Ytllapjidnngaeaa
