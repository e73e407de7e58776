/-
  Contracts of the program's frames: Give.
-/
import Derived.Test.YtipepklobpnbpaaFrOpsB
import Derived.LoopTactic
namespace Go.Proofs.Ytipepklobpnbpaa
open Go.ChangeShapes Go.WideShapes Go.ChangeAt Go.RowKit
set_option linter.unusedVariables false
/-- An empty frame. -/
def zeroF : Array Value := #[.bool false] ++ Array.replicate 64 (.int .u8 0)
theorem builtF : Try.prog.built 94 [] = some zeroF := by kernel_rfl
theorem frame_info : (Try.prog.info? 94).map (fun i => (i.zero, i.size, i.bytes)) = some (some (.agg zeroF), 65, 65) := by kernel_rfl
theorem frame_size : (Try.prog.info? 94).map (·.size) = some zeroF.size := by kernel_rfl
theorem int_info : (Try.prog.info? 3).map (fun i => (i.zero, i.size, i.bytes)) = some (some (.int .i64 0), 1, 8) := by kernel_rfl
theorem byte_info : (Try.prog.info? 5).map (fun i => (i.zero, i.size, i.bytes)) = some (some (.int .u8 0), 1, 1) := by kernel_rfl
theorem zeroF_all : zeroF.all (·.oneCell') = true := by kernel_rfl
theorem zeroF_size : zeroF.size = 65 := by kernel_rfl
theorem zeroF_0 : zeroF.toList[0]? = some (.bool false) := by kernel_rfl
theorem zeroF_j (j : Nat) (h : j < 64) : zeroF.toList[1 + j]? = some (.int .u8 0) := by
  have e : zeroF.toList = [Value.bool false] ++ List.replicate 64 (Value.int .u8 0) := by simp [zeroF]
  rw [e, List.getElem?_append_right (by simp), List.getElem?_replicate]
  simp; omega
theorem rowF_give {w' : World} {A : Nat} {s : St} {i : Nat} (hi : i < s.n) {cur : List Value} (e : w'.heap[A]? = some (.cells (splice cur (i * 65) zeroF.toList).toArray 94 (0, 0)))
    (h2 : cur.length = s.n * 65) (h3 : ∀ i, i < s.n → cur[i * 65]? = some (.bool (s.tk i)) ∧ ∀ j, j < 64 → cur[i * 65 + (1 + j)]? = some (.int .u8 (s.bt i j))) : RowF w' A (s.give i) := by
  have hz : zeroF.toList.length = 65 := by rw [Array.length_toList]; exact zeroF_size
  have hf : i * 65 + zeroF.toList.length ≤ cur.length := by rw [hz, h2]; omega
  refine ⟨_, e, by rw [length_splice _ _ _ hf]; exact h2, fun k hk => ?_⟩
  have hk : k < s.n := hk
  constructor
  · show _ = some (Value.bool (upd s.tk i false k))
    rw [getElem?_splice _ _ _ hf, hz]
    by_cases h : k = i
    · subst h; rw [upd_same, if_pos (by omega), Nat.sub_self]; exact zeroF_0
    · rw [upd_other _ _ h, if_neg (by omega)]; exact (h3 k hk).1
  · intro j hj
    show _ = some (Value.int .u8 (upd s.bt i (fun _ => 0) k j))
    rw [getElem?_splice _ _ _ hf, hz]
    by_cases h : k = i
    · subst h; rw [upd_same, if_pos (by omega), show k * 65 + (1 + j) - k * 65 = 1 + j by omega]; exact zeroF_j j hj
    · rw [upd_other _ _ h, if_neg (by omega)]; exact (h3 k hk).2 j hj
theorem give_err {w : World} {H A Q : Nat} {s : St} (f : Fr w H A Q s) (i : Int) (h : code s i 0 0 ≠ 0) :
    Calls Try.prog 45 #[.pointer (some ⟨H, 0, none⟩), .int .i64 i] w fun e w' => e = .returned (.int .i64 (code s i 0 0)) ∧ w = w' := by
  have F := hide f
  have h' : (code s i 0 0 == 0) = false := by simpa using h
  clear f
  generalize hc : code s i 0 0 = c at *
  go_enter Try.func45, Try.ntmps45
  go_wp2_with (go_at_call 51; with_reducible refine (check_any F.out _ _ _ wf_zero).mono ?_; rintro e w' ⟨rfl, rfl⟩; rw [hc])
  go_ret
  exact ⟨rfl, rfl⟩
theorem give_nil (w : World) (i : Int) : Calls Try.prog 45 #[.pointer none, .int .i64 i] w fun e w' => e = .returned (.int .i64 1) ∧ w = w' := by
  go_enter Try.func45, Try.ntmps45
  go_wp2_with (go_at_call 51; with_reducible refine (check_nil _ _ _ _).mono ?_; rintro e w' ⟨rfl, rfl⟩)
  go_ret
  exact ⟨rfl, rfl⟩
theorem fit00 : fit 0 0 = true := by decide
theorem fr_give {w w1 w2 : World} {H A Q : Nat} {s : St} (f : Fr w H A Q s) {i : Nat} (hi : i < s.n) (ht : s.tk i = true) {cur : List Value} (r2 : cur.length = s.n * 65)
    (r3 : ∀ i, i < s.n → cur[i * 65]? = some (.bool (s.tk i)) ∧ ∀ j, j < 64 → cur[i * 65 + (1 + j)]? = some (.int .u8 (s.bt i j)))
    (e1 : w1.heap[A]? = some (.cells (splice cur (i * 65) zeroF.toList).toArray 94 (0, 0))) (t1 : Touch (fun k => k = A) w w1) {o : Obj}
    (o2 : w2.ownsRow 0 3 1 (.slice (some ⟨Q, 0, none⟩) (s.fr.length + 1) s.n) (s.fr.length + 1) ((nums s.fr).map (Value.int .i64) ++ [.int .i64 (i : Int)])) (g2 : (w1.alloc o).grownBy w2 (some Q)) :
    Fr (w2.setCell ⟨H, 1, none⟩ (.slice (some ⟨Q, 0, none⟩) (s.fr.length + 1) s.n)) H A Q (s.give i) ∧ Touch (Blk H A Q) w (w2.setCell ⟨H, 1, none⟩ (.slice (some ⟨Q, 0, none⟩) (s.fr.length + 1) s.n)) := by
  have tq : Touch (fun k => k = Q) w1 w2 := ((Touch.refl (fun k => k = Q) w1).alloc o).trans (Touch.of_grown (S := fun k => k = Q) g2 (fun g e => by injection e with e; exact e.symm)) (fun _ e => .inl e)
  have t2 : Touch (Blk H A Q) w w2 := (t1.mono (S' := Blk H A Q) (fun k e => .inr (.inl e))).trans tq (fun k e => .inl (.inr (.inr e)))
  have l1 : A < w1.heap.size := lt_of_heap e1
  have lH : H < w1.heap.size := Nat.lt_of_lt_of_le f.ltH t1.size
  have eA : w2.heap[A]? = w1.heap[A]? := tq.block A l1 f.aq
  have eH : w2.heap[H]? = w.heap[H]? := (tq.block H lH f.hq).trans (t1.block H f.ltH f.ha)
  have hl : (s.fr ++ [i]).length = s.fr.length + 1 := by simp
  refine ⟨⟨good_give f.good hi ht, ?_, ?_, ?_, f.ha, f.hq, f.aq⟩, t2.setCell (p := ⟨H, 1, none⟩) (.inl rfl) _⟩
  · rw [heap_setCell_same _ _ _ _ _ _ (eH.trans f.head)]
    show _ = some (Obj.cells #[_, Value.slice (some ⟨Q, 0, none⟩) (s.fr ++ [i]).length s.n] _ _)
    rw [hl]; rfl
  · refine (rowF_give hi (eA.trans e1) r2 r3).keep ?_
    exact heap_setCell_other _ _ _ _ (Ne.symm f.ha)
  · show World.ownsRow _ _ _ _ (.slice (some ⟨Q, 0, none⟩) (s.fr ++ [i]).length s.n) (s.fr ++ [i]).length ((nums (s.fr ++ [i])).map (Value.int .i64))
    have e4 : (nums (s.fr ++ [i])).map (Value.int .i64) = (nums s.fr).map (Value.int .i64) ++ [Value.int .i64 (i : Int)] := by simp [nums]
    rw [hl, e4]
    have t3 : Touch (fun k => k = H) w2 (w2.setCell ⟨H, 1, none⟩ (.slice (some ⟨Q, 0, none⟩) (s.fr.length + 1) s.n)) := (Touch.refl (fun k => k = H) w2).setCell (p := ⟨H, 1, none⟩) rfl _
    refine t3.own o2 (fun g hg e => ?_)
    injection hg with hg
    exact f.hq (by rw [← e, ← hg])
set_option maxRecDepth 100000 in
set_option maxHeartbeats 2000000 in
theorem give_ok {w : World} {H A Q : Nat} {s : St} (f : Fr w H A Q s) (i : Nat) (hi : i < s.n) (ht : s.tk i = true) :
    Calls Try.prog 45 #[.pointer (some ⟨H, 0, none⟩), .int .i64 (i : Nat)] w fun e w' => e = .returned (.int .i64 0) ∧ Fr w' H A Q (s.give i) ∧ Touch (Blk H A Q) w w' := by
  obtain ⟨i0, hi0, hz0, hz1, hz2⟩ := info_parts int_info
  have F := hide f
  obtain ⟨cur, r1, r2, r3⟩ := f.row
  have R3 := hide r3
  have h0 := f.h0
  have room := f.good.room hi ht
  have hfit : i * 65 + zeroF.size ≤ cur.length := by rw [zeroF_size, r2]; omega
  have c0 : code s (i : Nat) 0 0 = 0 := code_ok hi fit00 ht
  have x1 : (i : Int) < (s.n : Int) := by omega
  have x0 : (0 : Int) ≤ (i : Int) := by omega
  have hq := f.hq
  have ha := f.ha
  clear f r3
  go_enter Try.func45, Try.ntmps45
  go_wp2_with (first
    | (go_at_call 51; with_reducible refine (check_any F.out _ _ _ wf_zero).mono ?_; rintro e w' ⟨rfl, rfl⟩; rw [c0])
    | (refine wpList_build rfl 94 #[] rfl (by kernel_rfl) ?_)
    | (refine wpList_store_seg rfl 94 (.tmp 18) (.tmp 17) rfl A (i * 65) zeroF rfl rfl 94 cur r1 frame_size hfit zeroF_all ?_; intro w1 e1 t1; have k1 := t1.cell F.out.h1 ha; have O1 := hide (t1.own F.out.free (fun g hg e => by injection hg with hg; exact F.out.aq (by rw [← e, ← hg]))); have E1 := hide e1; have T1 := hide t1; have lH := Nat.lt_of_lt_of_le F.out.ltH t1.size; clear e1 t1 h0 r1)
    | (at_builtin; refine wpList_append_fits _ rfl (.tmp 23) (.tmp 25) _ rfl 0 3 i0 1 Try.underlying67 hi0 hz1 Q s.fr.length s.n _ rfl (O1.out.alloc _) _ 1 1 [.int .i64 (i : Int)] rfl rfl (cell_one_new _ _ _) (by intro u hu; rw [List.mem_singleton] at hu; rw [hu]; rfl) (by omega) ?_; intro w2 o2 g2; have k2 := g2.cell (a := ⟨H, 1, none⟩) (v := .slice (some ⟨Q, 0, none⟩) s.fr.length s.n) (by rw [World.cell?_alloc_past _ _ _ lH]; exact k1) (fun e => hq (by injection e)); have z2 : w2.frozen? ⟨H, 1, none⟩ = false := (World.frozen?_of_block ((g2.block H (by simp; omega) (fun e => hq (by injection e))).trans ((RowKit.Below.heap_alloc w1 _ _ lH).trans (T1.out.block H F.out.ltH ha)))).trans (F.out.f0 1); have FG := hide (fr_give F.out hi ht r2 R3.out E1.out T1.out o2 g2); clear o2 g2))
  go_ret
  exact ⟨rfl, FG.out.1, FG.out.2⟩
end Go.Proofs.Ytipepklobpnbpaa
