/-
  The program's slab's Give.
-/
import Derived.Test.YtllapjidnngaeaaPsOpsB
namespace Go.Proofs.Ytllapjidnngaeaa
open Go.ChangeShapes Go.WideShapes Go.ChangeAt Go.RowKit
set_option linter.unusedVariables false
theorem sgive_none {w : World} {S H : Nat} {T : Nat → Cu} (h : RowS w S H T) (fr sl sz : Int) (hn : hasT T fr sl sz = false) :
    Calls Try.prog 16 #[.pointer (some ⟨S, 0, none⟩), refV fr sl sz] w fun e w' => e = .returned (.int .i64 4) ∧ Below w.heap.size w w' := by
  have b0 := (Below.refl w.heap.size w).alloc (Nat.le_refl _) (.cells #[.int .i64 fr, .int .i64 sl, .int .i64 sz] 39)
  have HH := hide (show RowS _ S H T from (b0.block S (lt_of_heap h)).trans h)
  have B0 := hide b0
  clear h b0
  unfold refV
  go_enter Try.func16, Try.ntmps16
  go_wp2_with (go_at_call 14; refine (shas_any HH.out _ _ _).mono ?_; rintro e w' ⟨rfl, hb⟩; rw [hn]; have HB := hide (below_one hb (by simp)); clear hb)
  go_ret
  exact ⟨rfl, HB.out⟩
theorem set5_splice {α : Type} (L : List α) (o : Nat) (a b c d e : α) (h : o + 5 ≤ L.length) : ((((L.set o a).set (o + 1) b).set (o + 2) c).set (o + 3) d).set (o + 4) e = splice L o [a, b, c, d, e] := by
  refine List.ext_getElem? fun q => ?_
  rw [getElem?_splice _ _ _ (by simpa using h)]
  by_cases h1 : o ≤ q ∧ q < o + 5
  · rw [if_pos (by simpa using h1)]
    obtain ⟨r, rfl⟩ : ∃ r, q = o + r := ⟨q - o, by omega⟩
    have hr : r < 5 := by omega
    have hq : o + r < L.length := by omega
    rw [show o + r - o = r by omega]
    match r, hr with
    | 0, _ => simp [List.getElem?_set]; omega
    | 1, _ => simp [List.getElem?_set]; omega
    | 2, _ => simp [List.getElem?_set]; omega
    | 3, _ => simp [List.getElem?_set]; omega
    | 4, _ => simp [List.getElem?_set]; omega
  · rw [if_neg (by simpa using h1)]
    rw [List.getElem?_set_ne (by omega), List.getElem?_set_ne (by omega), List.getElem?_set_ne (by omega), List.getElem?_set_ne (by omega), List.getElem?_set_ne (by omega)]
/-- The five cells of a cut are written. -/
def put5 (w : World) (S o : Nat) (u : Cu) : World := ((((w.setCell ⟨S, o, none⟩ (.int .i64 (u.c : Int))).setCell ⟨S, o + 1, none⟩ (.bool (u.tk 0))).setCell ⟨S, o + 2, none⟩ (.bool (u.tk 1))).setCell ⟨S, o + 3, none⟩ (.bool (u.tk 2))).setCell ⟨S, o + 4, none⟩ (.bool (u.tk 3))
theorem RowS.put5 {w : World} {S H : Nat} {T : Nat → Cu} (h : RowS w S H T) {f : Nat} (hf : f < 64) (u : Cu) : RowS (put5 w S (2 + f * 5) u) S H (upd T f u) ∧ Touch (fun i => i = S) w (Go.Proofs.Ytllapjidnngaeaa.put5 w S (2 + f * 5) u) := by
  refine ⟨?_, (((((Touch.refl (fun i => i = S) w).setCell (p := ⟨S, 2 + f * 5, none⟩) rfl _).setCell (p := ⟨S, 2 + f * 5 + 1, none⟩) rfl _).setCell (p := ⟨S, 2 + f * 5 + 2, none⟩) rfl _).setCell (p := ⟨S, 2 + f * 5 + 3, none⟩) rfl _).setCell (p := ⟨S, 2 + f * 5 + 4, none⟩) rfl _⟩
  unfold RowS Go.Proofs.Ytllapjidnngaeaa.put5
  rw [heap_setCell_same _ _ _ _ _ _ (heap_setCell_same _ _ _ _ _ _ (heap_setCell_same _ _ _ _ _ _ (heap_setCell_same _ _ _ _ _ _ (heap_setCell_same _ _ _ _ _ _ h)))), ← cellsS_splice hf u]
  have := set5_splice (cellsS H T) (2 + f * 5) (.int .i64 (u.c : Int)) (.bool (u.tk 0)) (.bool (u.tk 1)) (.bool (u.tk 2)) (.bool (u.tk 3)) (by rw [cellsS_length]; omega)
  unfold cellsE
  rw [← this]
  simp
theorem scut_size : (Try.prog.info? 70).map (·.size) = some 5 := by kernel_rfl
set_option maxRecDepth 10000 in
set_option maxHeartbeats 4000000 in
theorem sgive_some {w : World} {S H A Q : Nat} {T : Nat → Cu} {s : St} (h : RowS w S H T) (fr : Fr w H A Q s) (hd : ¬ Blk H A Q S) (f q : Nat) (sz : Int) (hf : f < 64) (hq : q < 4) (hsz : sz = ((T f).c : Int)) (ht : (T f).tk q = true) (hfs : f < s.n) (hft : s.tk f = true) :
    Calls Try.prog 16 #[.pointer (some ⟨S, 0, none⟩), refV f q sz] w fun e w' => e = .returned (.int .i64 0) ∧
      (((T f).put q false).none = false → RowS w' S H (upd T f ((T f).put q false)) ∧ Touch (fun i => i = S) w w') ∧
      (((T f).put q false).none = true → RowS w' S H (upd T f (bare f)) ∧ Fr w' H A Q (s.give f) ∧ Touch (fun i => i = S ∨ Blk H A Q i) w w') := by
  have hn : hasT T f q sz = true := by rw [hasT_in hf hq, ht, hsz]; simp
  clear hsz
  have b0 := (Below.refl w.heap.size w).alloc (Nat.le_refl _) (.cells #[.int .i64 (f : Int), .int .i64 (q : Int), .int .i64 sz] 39)
  have HH := hide (show RowS _ S H T from (b0.block S (lt_of_heap h)).trans h)
  have HX := hide (heap_alloc_new w (.cells #[.int .i64 (f : Int), .int .i64 (q : Int), .int .i64 sz] 39))
  have B0 := hide b0
  have SX := hide (lt_of_heap h)
  have FR := hide fr
  clear h b0 fr
  unfold refV
  obtain ⟨u, hu⟩ : ∃ u, u = (T f).put q false := ⟨_, rfl⟩
  rw [← hu]
  have HU := hide hu
  clear hu
  go_enter Try.func16, Try.ntmps16
  go_upto_region 3 with fail
  generalize w.alloc (.cells #[.int .i64 (f : Int), .int .i64 (q : Int), .int .i64 sz] 39) = w0 at *
  obtain ⟨X, hX⟩ : ∃ X, X = w.heap.size := ⟨_, rfl⟩
  rw [← hX] at HX SX ⊢
  have EX := hide hX
  clear hX
  have x0 : w0.cell? ⟨X, 0, none⟩ = some (.int .i64 (f : Int)) := by rw [cell_of_row _ _ _ _ _ _ HX.out]; rfl
  have x1 : w0.cell? ⟨X, 1, none⟩ = some (.int .i64 (q : Int)) := by rw [cell_of_row _ _ _ _ _ _ HX.out]; rfl
  have x2 : w0.cell? ⟨X, 2, none⟩ = some (.int .i64 sz) := by rw [cell_of_row _ _ _ _ _ _ HX.out]; rfl
  go_upto_region 5 with (go_at_call 14; refine (shas_any HH.out _ _ _).mono ?_; rintro e w1 ⟨rfl, hb⟩; rw [hn]; have HB := hide hb; clear hb)
  clear x0 x1 x2
  have hX1 := (HB.out.block X (lt_of_heap HX.out)).trans HX.out
  have x0 : w1.cell? ⟨X, 0, none⟩ = some (.int .i64 (f : Int)) := by rw [cell_of_row _ _ _ _ _ _ hX1]; rfl
  have x1 : w1.cell? ⟨X, 1, none⟩ = some (.int .i64 (q : Int)) := by rw [cell_of_row _ _ _ _ _ _ hX1]; rfl
  have R1 := hide (show RowS w1 S H T from HH.out.keep (HB.out.block S (lt_of_heap HH.out)))
  have f0 : (0 : Int) ≤ (f : Int) := by omega
  have f1 : (f : Int) < 64 := by omega
  have q0 : (0 : Int) ≤ (q : Int) := by omega
  have q1 : (q : Int) < 4 := by omega
  clear hX1
  go_quiet (fail)
  have R2 := hide (show RowS (w1.drewN nq) S H T from R1.out)
  have T2 := hide (show Touch (fun i => i = S) w (w1.drewN nq) from Touch.of_below (B0.out.trans ((below_drewN HB.out nq).mono B0.out.size)))
  clear x0 x1 R1
  have X2 := hide (show (w1.drewN nq).heap[X]? = _ from (HB.out.block X (lt_of_heap HX.out)).trans HX.out)
  have x1 : (w1.drewN nq).cell? ⟨X, 1, none⟩ = some (.int .i64 (q : Int)) := by rw [cell_of_row (w1.drewN nq) _ _ _ _ _ ((HB.out.block X (lt_of_heap HX.out)).trans HX.out)]; rfl
  have sq : (w1.drewN nq).cell? ⟨S, 2 + f * 5 + 1 + q, none⟩ = some (.bool ((T f).tk q)) := by
    have := R2.out.cut (1 + q) hf (by omega)
    rw [cellsE_tk _ _ hq, ← Nat.add_assoc] at this
    exact this
  have fq := R2.out.frozen (2 + f * 5 + 1 + q)
  have PQ := hide (R2.out.put hf hq false)
  have TX := hide (show ((w1.drewN nq).setCell ⟨S, 2 + f * 5 + 1 + q, none⟩ (.bool false)).drew.heap[X]? = (w1.drewN nq).heap[X]? from ((Touch.refl (fun i => i = S) (w1.drewN nq)).setCell (p := ⟨S, 2 + f * 5 + 1 + q, none⟩) rfl (.bool false)).block X (lt_of_heap X2.out) (by have := SX.out; show X ≠ S; omega))
  have TQ := hide (T2.out.setCell (p := ⟨S, 2 + f * 5 + 1 + q, none⟩) rfl (.bool false))
  clear R2 T2
  generalize w1.drewN nq = w2 at *
  go_upto_region 6 with fail
  go_region
  have X3 := hide (TX.out.trans X2.out)
  have R3 := hide (show RowS (w2.setCell ⟨S, 2 + f * 5 + 1 + q, none⟩ (.bool false)).drew S H (upd T f ((T f).put q false)) from PQ.out)
  have T3 := hide (TQ.out.drewN 1)
  replace T3 : Hid (Touch (fun i => i = S) w (w2.setCell ⟨S, 2 + f * 5 + 1 + q, none⟩ (.bool false)).drew) := T3
  clear PQ TQ sq fq x1
  generalize (w2.setCell ⟨S, 2 + f * 5 + 1 + q, none⟩ (.bool false)).drew = w3 at *
  rw [← HU.out] at R3
  have cs := fun j (hj : j < 5) => R3.out.cut j hf hj
  rw [upd_same] at cs
  have s0 : w3.cell? ⟨S, 2 + f * 5, none⟩ = some (.int .i64 (u.c : Int)) := cs 0 (by omega)
  have s1 : w3.cell? ⟨S, 2 + f * 5 + 1, none⟩ = some (.bool (u.tk 0)) := cs 1 (by omega)
  have s2 : w3.cell? ⟨S, 2 + f * 5 + 1 + 1, none⟩ = some (.bool (u.tk 1)) := cs 2 (by omega)
  have s3 : w3.cell? ⟨S, 2 + f * 5 + 1 + 2, none⟩ = some (.bool (u.tk 2)) := cs 3 (by omega)
  have s4 : w3.cell? ⟨S, 2 + f * 5 + 1 + 3, none⟩ = some (.bool (u.tk 3)) := cs 4 (by omega)
  have en := fun w => eq_none w (u.tk 0) (u.tk 1) (u.tk 2) (u.tk 3)
  replace en : ∀ w, (binOp .eql 68 (.agg #[.bool (u.tk 0), .bool (u.tk 1), .bool (u.tk 2), .bool (u.tk 3)]) (.agg #[.bool false, .bool false, .bool false, .bool false])).run Try.prog w = .ok (.bool u.none) w := en
  clear cs
  cases hne : u.none with
  | false =>
    rw [hne] at en
    go_wp2_with fail
    go_ret
    exact ⟨rfl, fun _ => ⟨R3.out, T3.out⟩, fun e => by rw [hne] at e; cases e⟩
  | true =>
    rw [hne] at en
    have z0 := R3.out.frozen (2 + f * 5)
    have z1 := R3.out.frozen (2 + f * 5 + 1)
    have z2 := R3.out.frozen (2 + f * 5 + 2)
    have z3 := R3.out.frozen (2 + f * 5 + 3)
    have z4 := R3.out.frozen (2 + f * 5 + 4)
    go_wp2_with fail
    obtain ⟨r5, t5⟩ := R3.out.put5 hf (bare f)
    have R5 := hide (r5.ext (T' := upd T f (bare f)) (fun i => by by_cases e : i = f; (rw [e, upd_same, upd_same]); (rw [upd_other _ _ e, upd_other _ _ e, upd_other _ _ e])))
    have T5 := hide (T3.out.trans t5 (fun _ e => .inl e))
    replace R5 : Hid (RowS (((((w3.setCell ⟨S, 2 + f * 5, none⟩ (.int .i64 0)).setCell ⟨S, 2 + f * 5 + 1, none⟩ (.bool false)).setCell ⟨S, 2 + f * 5 + 2, none⟩ (.bool false)).setCell ⟨S, 2 + f * 5 + 3, none⟩ (.bool false)).setCell ⟨S, 2 + f * 5 + 4, none⟩ (.bool false)) S H (upd T f (bare f))) := R5
    replace T5 : Hid (Touch (fun i => i = S) w (((((w3.setCell ⟨S, 2 + f * 5, none⟩ (.int .i64 0)).setCell ⟨S, 2 + f * 5 + 1, none⟩ (.bool false)).setCell ⟨S, 2 + f * 5 + 2, none⟩ (.bool false)).setCell ⟨S, 2 + f * 5 + 3, none⟩ (.bool false)).setCell ⟨S, 2 + f * 5 + 4, none⟩ (.bool false))) := T5
    have hx3 : w3.heap[X]? = _ := X3.out
    have hx5 := (t5.block X (lt_of_heap hx3) (by have := SX.out; show X ≠ S; omega)).trans hx3
    have X5 := hide hx5
    replace X5 : Hid ((((((w3.setCell ⟨S, 2 + f * 5, none⟩ (.int .i64 0)).setCell ⟨S, 2 + f * 5 + 1, none⟩ (.bool false)).setCell ⟨S, 2 + f * 5 + 2, none⟩ (.bool false)).setCell ⟨S, 2 + f * 5 + 3, none⟩ (.bool false)).setCell ⟨S, 2 + f * 5 + 4, none⟩ (.bool false)).heap[X]? = some (.cells #[.int .i64 (f : Int), .int .i64 (q : Int), .int .i64 sz] 39 (0, 0))) := X5
    clear r5 t5 hx3 hx5 s0 s1 s2 s3 s4 z0 z1 z2 z3 z4 en
    generalize ((((w3.setCell ⟨S, 2 + f * 5, none⟩ (.int .i64 0)).setCell ⟨S, 2 + f * 5 + 1, none⟩ (.bool false)).setCell ⟨S, 2 + f * 5 + 2, none⟩ (.bool false)).setCell ⟨S, 2 + f * 5 + 3, none⟩ (.bool false)).setCell ⟨S, 2 + f * 5 + 4, none⟩ (.bool false) = w5 at *
    have F5 := hide (FR.out.touch T5.out (fun i hi e => hd (e ▸ hi)))
    have sg : w5.cell? ⟨S, 1, none⟩ = some (.func (.func 26) #[.pointer (some ⟨H, 0, none⟩)] #[]) := R5.out.give
    have x0 : w5.cell? ⟨X, 0, none⟩ = some (.int .i64 (f : Int)) := by rw [cell_of_row _ _ _ _ _ _ X5.out]; rfl
    have XB : ¬ Blk H A Q X := by have h1 := FR.out.ltH; have h2 := FR.out.ltA; have h3 := FR.out.ltQ; have := EX.out; rintro (h | h | h) <;> omega
    go_region_held3 (fun w' => w'.cell? ⟨S, 1, none⟩ = some (.func (.func 26) #[.pointer (some ⟨H, 0, none⟩)] #[]) ∧ w'.cell? ⟨X, 0, none⟩ = some (.int .i64 (f : Int))) (first | exact ⟨sg, x0⟩ | exact q6) (first | (go_at_call 26; refine (give_ok (F5.out.below (below_drewN (Below.refl _ _) 1)) f hfs hft).mono ?_; rintro e w6 ⟨rfl, f6, t6⟩; have F6 := hide f6; have T6 := hide t6; have q6 := And.intro (t6.cell (p := ⟨S, 1, none⟩) sg hd) (t6.cell (p := ⟨X, 0, none⟩) x0 XB); clear f6 t6))
    go_wp2_with fail
    go_ret
    refine ⟨rfl, (fun e => by rw [hne] at e; cases e), fun _ => ⟨R5.out.keep (T6.out.block S (by have := lt_of_heap R5.out; exact this) hd), F6.out, ((T5.out.drewN 1).mono (fun i e => .inl e)).trans T6.out (fun i e => .inl (.inr e))⟩⟩
end Go.Proofs.Ytllapjidnngaeaa
