/-
  The program's slab's Take where no piece is free: no frame either, or a frame cut anew.
-/
import Derived.Test.YtllapjidnngaeaaPsTake
namespace Go.Proofs.Ytllapjidnngaeaa
open Go.ChangeShapes Go.WideShapes Go.ChangeAt Go.RowKit
set_option linter.unusedVariables false
set_option maxRecDepth 10000 in
set_option maxHeartbeats 4000000 in
theorem stake_full {w : World} {S H A Q : Nat} {T : Nat → Cu} {s : St} (h : RowS w S H T) (fr : Fr w H A Q s) (n : Int) (hn : (Lit.int .i64 n).wf = true) (c : Nat) (hc : cls n = c) (hcc : c = 16 ∨ c = 32 ∨ c = 64) (hfull : ∀ j, j < 64 → Full (T j) c (64 / c)) (hs : s.fr = []) :
    Calls Try.prog 10 #[.pointer (some ⟨S, 0, none⟩), .int .i64 n] w fun e w' => e = .returned (.tuple #[refV 0 0 0, .int .i64 3]) ∧ Below w.heap.size w w' := by
  have b0 := (Below.refl w.heap.size w).alloc (Nat.le_refl _) (.cells #[.int .i64 0, .int .i64 0, .int .i64 0] 39)
  have HH := hide (show RowS _ S H T from (b0.block S (lt_of_heap h)).trans h)
  have HX := hide (heap_alloc_new w (.cells #[.int .i64 0, .int .i64 0, .int .i64 0] 39))
  have FF := hide (fr.below b0)
  have B0 := hide b0
  have SX := hide (lt_of_heap h)
  have BX := hide (show ∀ i, Blk H A Q i → i < w.heap.size from by have h1 := fr.ltH; have h2 := fr.ltA; have h3 := fr.ltQ; rintro i (e | e | e) <;> omega)
  have nf := func_not_nil H
  have st := HH.out.take
  have hc' : ((cls n : Nat) : Int) = (c : Int) := by rw [hc]
  have cne : ¬ (c : Int) = 0 := by omega
  have SP := hide fun w' (b : Below (w.alloc (.cells #[.int .i64 0, .int .i64 0, .int .i64 0] 39)).heap.size (w.alloc (.cells #[.int .i64 0, .int .i64 0, .int .i64 0] 39)) w') => spare_none (HH.out.keep (b.block S (lt_of_heap HH.out))) c hcc hfull
  clear h b0 hc hcc hfull fr
  unfold refV
  go_enter Try.func10, Try.ntmps10
  go_upto_region 6 with (go_at_call 22; with_reducible refine (class_any _ _ hn).mono ?_; rintro e w' ⟨rfl, rfl⟩; rw [hc'])
  clear st
  generalize w.alloc (.cells #[.int .i64 0, .int .i64 0, .int .i64 0] 39) = w0 at *
  obtain ⟨X, hX⟩ : ∃ X, X = w.heap.size := ⟨_, rfl⟩
  rw [← hX] at HX SX BX ⊢
  have EX := hide hX
  clear hX
  go_upto_region 7 with (go_at_call 27; refine (SP.out _ (Below.refl _ _)).mono ?_; rintro e w1 ⟨rfl, hb⟩; have HB := hide hb; clear hb; unfold refV)
  have bA := (Below.refl w1.heap.size w1).alloc (Nat.le_refl _) (.cells #[.int .i64 0, .int .i64 0, .int .i64 0] 39)
  have B2 := hide (B0.out.trans ((HB.out.mono B0.out.size).trans (bA.mono (Nat.le_trans B0.out.size HB.out.size))))
  have R2 := hide (show RowS (w1.alloc (.cells #[.int .i64 0, .int .i64 0, .int .i64 0] 39)) S H T from HH.out.keep ((bA.block S (Nat.lt_of_lt_of_le (lt_of_heap HH.out) HB.out.size)).trans (HB.out.block S (lt_of_heap HH.out))))
  have X2 := hide ((bA.block X (Nat.lt_of_lt_of_le (lt_of_heap HX.out) HB.out.size)).trans ((HB.out.block X (lt_of_heap HX.out)).trans HX.out))
  have Z2 := hide (heap_alloc_new w1 (.cells #[.int .i64 0, .int .i64 0, .int .i64 0] 39))
  have XZ := hide (show X < w1.heap.size from Nat.lt_of_lt_of_le (lt_of_heap HX.out) HB.out.size)
  have F2 := hide ((FF.out.below HB.out).below bA)
  clear bA
  generalize w1.alloc (.cells #[.int .i64 0, .int .i64 0, .int .i64 0] 39) = w2 at *
  generalize w1.heap.size = Z at *
  have st := R2.out.take
  have x0 : w2.cell? ⟨X, 0, none⟩ = some (.int .i64 0) := by rw [cell_of_row _ _ _ _ _ _ X2.out]; rfl
  have x1 : w2.cell? ⟨X, 1, none⟩ = some (.int .i64 0) := by rw [cell_of_row _ _ _ _ _ _ X2.out]; rfl
  have x2 : w2.cell? ⟨X, 2, none⟩ = some (.int .i64 0) := by rw [cell_of_row _ _ _ _ _ _ X2.out]; rfl
  have xf0 : w2.frozen? ⟨X, 0, none⟩ = false := frozen_of_row _ _ _ _ _ X2.out
  have xf1 : w2.frozen? ⟨X, 1, none⟩ = false := frozen_of_row _ _ _ _ _ X2.out
  have xf2 : w2.frozen? ⟨X, 2, none⟩ = false := frozen_of_row _ _ _ _ _ X2.out
  go_wp2_with (go_at_call 25; refine (take_full F2.out hs).mono ?_; rintro e w' ⟨rfl, rfl⟩)
  have hx3 := three_set (x := .int .i64 0) (y := .int .i64 0) (z := .int .i64 0) X2.out
  have tx := three_touch (w := w2) (X := X) (x := .int .i64 0) (y := .int .i64 0) (z := .int .i64 0)
  generalize ((w2.setCell ⟨X, 0, none⟩ (.int .i64 0)).setCell ⟨X, 1, none⟩ (.int .i64 0)).setCell ⟨X, 2, none⟩ (.int .i64 0) = W5 at *
  have y0 : W5.cell? ⟨X, 0, none⟩ = some (.int .i64 0) := by rw [cell_of_row _ _ _ _ _ _ hx3]; rfl
  have y1 : W5.cell? ⟨X, 1, none⟩ = some (.int .i64 0) := by rw [cell_of_row _ _ _ _ _ _ hx3]; rfl
  have y2 : W5.cell? ⟨X, 2, none⟩ = some (.int .i64 0) := by rw [cell_of_row _ _ _ _ _ _ hx3]; rfl
  exact bodyPost_ret (v := .tuple #[.agg #[.int .i64 0, .int .i64 0, .int .i64 0], .int .i64 3]) (by simp [results, Try.results10, go_sem, y0, y1, y2]) rfl ⟨rfl, B2.out.trans (tx.below B2.out.size (fun i e => by have := EX.out; omega))⟩
set_option maxRecDepth 10000 in
set_option maxHeartbeats 4000000 in
theorem stake_new {w : World} {S H A Q : Nat} {T : Nat → Cu} {s : St} (h : RowS w S H T) (fr : Fr w H A Q s) (hd : ¬ Blk H A Q S) (n : Int) (hn : (Lit.int .i64 n).wf = true) (c : Nat) (hc : cls n = c) (hcc : c = 16 ∨ c = 32 ∨ c = 64) (hfull : ∀ j, j < 64 → Full (T j) c (64 / c)) {l0 : List Nat} {x : Nat} (hs : s.fr = l0 ++ [x]) :
    Calls Try.prog 10 #[.pointer (some ⟨S, 0, none⟩), .int .i64 n] w fun e w' => e = .returned (.tuple #[refV x 0 c, .int .i64 0]) ∧ RowS w' S H (upd T x (fresh1 x c)) ∧ Fr w' H A Q (s.take l0 x) ∧ Touch (fun i => i = S ∨ Blk H A Q i) w w' := by
  have hx : x < 64 := by have h1 := fr.good.lt x (by rw [hs]; simp); have h2 := fr.good.n64; omega
  have b0 := (Below.refl w.heap.size w).alloc (Nat.le_refl _) (.cells #[.int .i64 0, .int .i64 0, .int .i64 0] 39)
  have HH := hide (show RowS _ S H T from (b0.block S (lt_of_heap h)).trans h)
  have HX := hide (heap_alloc_new w (.cells #[.int .i64 0, .int .i64 0, .int .i64 0] 39))
  have FF := hide (fr.below b0)
  have B0 := hide b0
  have SX := hide (lt_of_heap h)
  have BX := hide (show ∀ i, Blk H A Q i → i < w.heap.size from by have h1 := fr.ltH; have h2 := fr.ltA; have h3 := fr.ltQ; rintro i (e | e | e) <;> omega)
  have nf := func_not_nil H
  have st := HH.out.take
  have hc' : ((cls n : Nat) : Int) = (c : Int) := by rw [hc]
  have cne : ¬ (c : Int) = 0 := by omega
  have SP := hide fun w' (b : Below (w.alloc (.cells #[.int .i64 0, .int .i64 0, .int .i64 0] 39)).heap.size (w.alloc (.cells #[.int .i64 0, .int .i64 0, .int .i64 0] 39)) w') => spare_none (HH.out.keep (b.block S (lt_of_heap HH.out))) c hcc hfull
  clear h b0 hc hcc hfull fr
  unfold refV
  go_enter Try.func10, Try.ntmps10
  go_upto_region 6 with (go_at_call 22; with_reducible refine (class_any _ _ hn).mono ?_; rintro e w' ⟨rfl, rfl⟩; rw [hc'])
  clear st
  generalize w.alloc (.cells #[.int .i64 0, .int .i64 0, .int .i64 0] 39) = w0 at *
  obtain ⟨X, hX⟩ : ∃ X, X = w.heap.size := ⟨_, rfl⟩
  rw [← hX] at HX SX BX ⊢
  have EX := hide hX
  clear hX
  go_upto_region 7 with (go_at_call 27; refine (SP.out _ (Below.refl _ _)).mono ?_; rintro e w1 ⟨rfl, hb⟩; have HB := hide hb; clear hb; unfold refV)
  have bA := (Below.refl w1.heap.size w1).alloc (Nat.le_refl _) (.cells #[.int .i64 0, .int .i64 0, .int .i64 0] 39)
  have B2 := hide (B0.out.trans ((HB.out.mono B0.out.size).trans (bA.mono (Nat.le_trans B0.out.size HB.out.size))))
  have R2 := hide (show RowS (w1.alloc (.cells #[.int .i64 0, .int .i64 0, .int .i64 0] 39)) S H T from HH.out.keep ((bA.block S (Nat.lt_of_lt_of_le (lt_of_heap HH.out) HB.out.size)).trans (HB.out.block S (lt_of_heap HH.out))))
  have X2 := hide ((bA.block X (Nat.lt_of_lt_of_le (lt_of_heap HX.out) HB.out.size)).trans ((HB.out.block X (lt_of_heap HX.out)).trans HX.out))
  have Z2 := hide (heap_alloc_new w1 (.cells #[.int .i64 0, .int .i64 0, .int .i64 0] 39))
  have XZ := hide (show X < w1.heap.size from Nat.lt_of_lt_of_le (lt_of_heap HX.out) HB.out.size)
  have F2 := hide ((FF.out.below HB.out).below bA)
  clear bA
  generalize w1.alloc (.cells #[.int .i64 0, .int .i64 0, .int .i64 0] 39) = w2 at *
  generalize w1.heap.size = Z at *
  have st := R2.out.take
  go_upto_region 9 with (go_at_call 25; refine (take_ok F2.out hs).mono ?_; rintro e w3 ⟨rfl, f3, t3⟩; have F3 := hide f3; have T3 := hide t3; clear f3 t3)
  have XB : ¬ Blk H A Q X := fun e => Nat.lt_irrefl _ (EX.out ▸ BX.out X e)
  have ZB : ¬ Blk H A Q Z := fun e => by have := BX.out Z e; have := XZ.out; have := EX.out; omega
  have R3 := hide (R2.out.keep (T3.out.block S (lt_of_heap R2.out) hd))
  have X3 := hide ((T3.out.block X (lt_of_heap X2.out) XB).trans X2.out)
  have Z3 := hide ((T3.out.block Z (lt_of_heap Z2.out) ZB).trans Z2.out)
  have TW := hide ((Touch.of_below (S := fun i => i = S ∨ Blk H A Q i) B2.out).trans T3.out (fun i e => .inl (.inr e)))
  have z0 := R3.out.frozen (2 + x * 5)
  have z1 := R3.out.frozen (2 + x * 5 + 1)
  have z2 := R3.out.frozen (2 + x * 5 + 2)
  have z3 := R3.out.frozen (2 + x * 5 + 3)
  have z4 := R3.out.frozen (2 + x * 5 + 4)
  have cs := fun j (hj : j < 5) => R3.out.cut j hx hj
  have s0 : w3.cell? ⟨S, 2 + x * 5, none⟩ = some (.int .i64 ((T x).c : Int)) := cs 0 (by omega)
  have s1 : w3.cell? ⟨S, 2 + x * 5 + 1, none⟩ = some (.bool ((T x).tk 0)) := cs 1 (by omega)
  have s2 : w3.cell? ⟨S, 2 + x * 5 + 2, none⟩ = some (.bool ((T x).tk 1)) := cs 2 (by omega)
  have s3 : w3.cell? ⟨S, 2 + x * 5 + 3, none⟩ = some (.bool ((T x).tk 2)) := cs 3 (by omega)
  have s4 : w3.cell? ⟨S, 2 + x * 5 + 4, none⟩ = some (.bool ((T x).tk 3)) := cs 4 (by omega)
  clear cs
  have j0 : (0 : Int) ≤ (x : Int) := by omega
  have j1 : (x : Int) < 64 := by omega
  go_upto_region 12 with fail
  clear st z0 z1 z2 z3 z4 s0 s1 s2 s3 s4 R2 X2 Z2
  obtain ⟨r4, t4⟩ := R3.out.put5 hx ⟨x, c, fun _ => false⟩
  have hx4 := (t4.block X (lt_of_heap X3.out) (by have := SX.out; show X ≠ S; omega)).trans X3.out
  have hz4 := (t4.block Z (lt_of_heap Z3.out) (by have := SX.out; have := XZ.out; show Z ≠ S; omega)).trans Z3.out
  have hf4 := F3.out.touch t4 (fun i hi e => hd (e ▸ hi))
  have ht4 := TW.out.trans t4 (fun _ e => .inl (.inl e))
  have e4 : put5 w3 S (2 + x * 5) ⟨x, c, fun _ => false⟩ = ((((w3.setCell ⟨S, 2 + x * 5, none⟩ (.int .i64 (c : Int))).setCell ⟨S, 2 + x * 5 + 1, none⟩ (.bool false)).setCell ⟨S, 2 + x * 5 + 2, none⟩ (.bool false)).setCell ⟨S, 2 + x * 5 + 3, none⟩ (.bool false)).setCell ⟨S, 2 + x * 5 + 4, none⟩ (.bool false) := rfl
  rw [← e4]
  have R4 := hide r4
  have X4 := hide hx4
  have Z4 := hide hz4
  have F4 := hide hf4
  have T4 := hide ht4
  clear r4 t4 hx4 hz4 hf4 ht4 e4 R3 X3 Z3 F3 TW
  generalize put5 w3 S (2 + x * 5) ⟨x, c, fun _ => false⟩ = w4 at *
  obtain ⟨z0, z1, z2⟩ : w4.cell? ⟨Z, 0, none⟩ = some (.int .i64 0) ∧ w4.cell? ⟨Z, 1, none⟩ = some (.int .i64 0) ∧ w4.cell? ⟨Z, 2, none⟩ = some (.int .i64 0) := by
    refine ⟨?_, ?_, ?_⟩ <;> (rw [cell_of_row _ _ _ _ _ _ Z4.out]; rfl)
  have zf0 : w4.frozen? ⟨Z, 0, none⟩ = false := frozen_of_row _ _ _ _ _ Z4.out
  have zf1 : w4.frozen? ⟨Z, 1, none⟩ = false := frozen_of_row _ _ _ _ _ Z4.out
  have zf2 : w4.frozen? ⟨Z, 2, none⟩ = false := frozen_of_row _ _ _ _ _ Z4.out
  go_upto_region 13 with fail
  have hz5 := three_set (x := .int .i64 (x : Int)) (y := .int .i64 0) (z := .int .i64 (c : Int)) Z4.out
  have tz := three_touch (w := w4) (X := Z) (x := .int .i64 (x : Int)) (y := .int .i64 0) (z := .int .i64 (c : Int))
  have Z5 := hide hz5
  have X5 := hide ((tz.block X (lt_of_heap X4.out) (by have := XZ.out; show X ≠ Z; omega)).trans X4.out)
  have R5 := hide (R4.out.keep (tz.block S (lt_of_heap R4.out) (by have := SX.out; have := XZ.out; show S ≠ Z; omega)))
  have F5 := hide (F4.out.touch tz (fun i hi e => ZB (e ▸ hi)))
  have T5 := hide (show Touch (fun i => i = S ∨ Blk H A Q i) w _ from T4.out.trans tz (fun i e => .inr (by have := XZ.out; have := EX.out; omega)))
  clear z0 z1 z2 zf0 zf1 zf2 hz5 tz R4 X4 Z4 F4 T4
  generalize ((w4.setCell ⟨Z, 0, none⟩ (.int .i64 (x : Int))).setCell ⟨Z, 1, none⟩ (.int .i64 0)).setCell ⟨Z, 2, none⟩ (.int .i64 (c : Int)) = w5 at *
  obtain ⟨z0, z1, z2⟩ : w5.cell? ⟨Z, 0, none⟩ = some (.int .i64 (x : Int)) ∧ w5.cell? ⟨Z, 1, none⟩ = some (.int .i64 0) ∧ w5.cell? ⟨Z, 2, none⟩ = some (.int .i64 (c : Int)) := by
    refine ⟨?_, ?_, ?_⟩ <;> (rw [cell_of_row _ _ _ _ _ _ Z5.out]; rfl)
  have sq : w5.cell? ⟨S, 2 + x * 5 + 1, none⟩ = some (.bool false) := by
    have := R5.out.cut 1 hx (by omega)
    rw [upd_same] at this
    exact this
  have fq := R5.out.frozen (2 + x * 5 + 1)
  have R6 := hide (show RowS (w5.setCell ⟨S, 2 + x * 5 + 1, none⟩ (.bool true)).drew S H (upd T x (fresh1 x c)) from (R5.out.put hx (show 0 < 4 by omega) true).ext (fun i => by
    rw [upd_same]
    by_cases e : i = x
    · rw [e, upd_same, upd_same]; rfl
    · rw [upd_other _ _ e, upd_other _ _ e, upd_other _ _ e]))
  have TS := ((Touch.refl (fun i => i = S) w5).setCell (p := ⟨S, 2 + x * 5 + 1, none⟩) rfl (.bool true)).drewN 1
  have T6 := hide (show Touch (fun i => i = S ∨ Blk H A Q i) w (w5.setCell ⟨S, 2 + x * 5 + 1, none⟩ (.bool true)).drew from T5.out.trans TS (fun i e => .inl (.inl e)))
  have X6 := hide (show (w5.setCell ⟨S, 2 + x * 5 + 1, none⟩ (.bool true)).drew.heap[X]? = _ from (TS.block X (lt_of_heap X5.out) (by have := SX.out; show X ≠ S; omega)).trans X5.out)
  have Z6 := hide (show (w5.setCell ⟨S, 2 + x * 5 + 1, none⟩ (.bool true)).drew.heap[Z]? = _ from (TS.block Z (lt_of_heap Z5.out) (by have := SX.out; have := XZ.out; show Z ≠ S; omega)).trans Z5.out)
  have F6 := hide (show Fr (w5.setCell ⟨S, 2 + x * 5 + 1, none⟩ (.bool true)).drew H A Q _ from F5.out.touch TS (fun i hi e => hd (e ▸ hi)))
  clear TS
  go_region
  clear z0 z1 z2 sq fq R5 X5 Z5 F5 T5
  generalize (w5.setCell ⟨S, 2 + x * 5 + 1, none⟩ (.bool true)).drew = w6 at *
  obtain ⟨z0, z1, z2⟩ : w6.cell? ⟨Z, 0, none⟩ = some (.int .i64 (x : Int)) ∧ w6.cell? ⟨Z, 1, none⟩ = some (.int .i64 0) ∧ w6.cell? ⟨Z, 2, none⟩ = some (.int .i64 (c : Int)) := by
    refine ⟨?_, ?_, ?_⟩ <;> (rw [cell_of_row _ _ _ _ _ _ Z6.out]; rfl)
  have x0 : w6.cell? ⟨X, 0, none⟩ = some (.int .i64 0) := by rw [cell_of_row _ _ _ _ _ _ X6.out]; rfl
  have x1 : w6.cell? ⟨X, 1, none⟩ = some (.int .i64 0) := by rw [cell_of_row _ _ _ _ _ _ X6.out]; rfl
  have x2 : w6.cell? ⟨X, 2, none⟩ = some (.int .i64 0) := by rw [cell_of_row _ _ _ _ _ _ X6.out]; rfl
  have xf0 : w6.frozen? ⟨X, 0, none⟩ = false := frozen_of_row _ _ _ _ _ X6.out
  have xf1 : w6.frozen? ⟨X, 1, none⟩ = false := frozen_of_row _ _ _ _ _ X6.out
  have xf2 : w6.frozen? ⟨X, 2, none⟩ = false := frozen_of_row _ _ _ _ _ X6.out
  go_wp2_with fail
  have hx3 := three_set (x := .int .i64 (x : Int)) (y := .int .i64 0) (z := .int .i64 (c : Int)) X6.out
  have tx := three_touch (w := w6) (X := X) (x := .int .i64 (x : Int)) (y := .int .i64 0) (z := .int .i64 (c : Int))
  generalize ((w6.setCell ⟨X, 0, none⟩ (.int .i64 (x : Int))).setCell ⟨X, 1, none⟩ (.int .i64 0)).setCell ⟨X, 2, none⟩ (.int .i64 (c : Int)) = W5 at *
  have y0 : W5.cell? ⟨X, 0, none⟩ = some (.int .i64 (x : Int)) := by rw [cell_of_row _ _ _ _ _ _ hx3]; rfl
  have y1 : W5.cell? ⟨X, 1, none⟩ = some (.int .i64 0) := by rw [cell_of_row _ _ _ _ _ _ hx3]; rfl
  have y2 : W5.cell? ⟨X, 2, none⟩ = some (.int .i64 (c : Int)) := by rw [cell_of_row _ _ _ _ _ _ hx3]; rfl
  have R9 : RowS W5 S H (upd T x (fresh1 x c)) := R6.out.keep (tx.block S (lt_of_heap R6.out) (by have := SX.out; show S ≠ X; omega))
  have F9 := F6.out.touch tx (fun i hi e => XB (e ▸ hi))
  have T9 := T6.out.trans tx (fun i e => .inr (by have := EX.out; omega))
  exact bodyPost_ret (v := .tuple #[.agg #[.int .i64 (x : Int), .int .i64 0, .int .i64 (c : Int)], .int .i64 0]) (by simp [results, Try.results10, go_sem, y0, y1, y2]) rfl ⟨rfl, R9, F9, T9⟩
end Go.Proofs.Ytllapjidnngaeaa
