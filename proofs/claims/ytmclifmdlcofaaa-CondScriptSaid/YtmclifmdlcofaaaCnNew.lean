/-
  The program's New; each call of none but Signal.
-/
import Derived.Test.YtmclifmdlcofaaaCnMem
import Derived.Laws.MakeOwn
import Derived.Deep.OwnRows
namespace Go.Proofs.Ytmclifmdlcofaaa
open Go.ChangeShapes Go.WideShapes Go.ChangeAt Go.RowKit
set_option linter.unusedVariables false
set_option linter.unusedSimpArgs false
theorem rows_info : (Try.prog.info? 44).map (fun i => (i.zero, i.size, i.bytes)) = some (some (.slice none 0 0), 1, 24) := by kernel_rfl
theorem built_cn (R n : Nat) : Try.prog.built 57 [(0, .slice (some ⟨R, 0, none⟩) n n)] = some #[.slice (some ⟨R, 0, none⟩) n n] := by kernel_rfl
attribute [local go_sem] built_cn
theorem made_rows (n : Nat) : madeCells #[Value.slice none 0 0] n = (List.replicate n (Value.slice none 0 0)).toArray := by
  apply Array.ext
  · simp [size_madeCells]
  · intro i h1 h2
    simp [madeCells, Nat.mod_one]
theorem cn_new (w : World) (n : Nat) (h1 : 1 ≤ n) (h4 : n ≤ 4) :
    Cn ((w.alloc (.cells (madeCells #[Value.slice none 0 0] n) 44)).alloc (.cells #[.slice (some ⟨w.heap.size, 0, none⟩) n n] 57)) (fun g => g = w.heap.size + 1 ∨ g = w.heap.size) (w.heap.size + 1) (newC n) w.heap.size (List.replicate n (Value.slice none 0 0)) := by
  have gv : ∀ (i : Nat) (v : Value), (List.replicate n (Value.slice none 0 0))[i]? = some v → v = .slice none 0 0 := fun i v h => (List.mem_replicate.1 (List.mem_of_getElem? h)).2
  refine ⟨?_, ?_, by simp [newC], fun i l v e1 e2 => ?_, fun i j v u g e1 e2 e3 => ?_, fun g => ?_, by omega, fun i v g e1 e2 => ?_, good_new n, by simpa [newC] using h1, by simpa [newC] using h4⟩
  · have e := heap_alloc_new (w.alloc (.cells (madeCells #[Value.slice none 0 0] n) 44)) (.cells #[.slice (some ⟨w.heap.size, 0, none⟩) n n] 57)
    have hl : (newC n).length = n := by simp [newC]
    rw [hl]
    simpa using e
  · rw [← made_rows]
    exact (heap_alloc_old _ _ (by simp)).trans (heap_alloc_new w _)
  · rw [gv i v e2, show l = [] from (List.mem_replicate.1 (List.mem_of_getElem? e1)).2]
    exact World.ownsRow_nil _ _ _ _
  · rw [gv i v e1] at e3; cases e3
  · constructor
    · rintro (h | h)
      · exact .inl h
      · exact .inr (.inl h)
    · rintro (h | h | ⟨i, v, e1, e2⟩)
      · exact .inl h
      · exact .inr h
      · rw [gv i v e1] at e2; cases e2
  · rw [gv i v e1] at e2; cases e2
set_option maxRecDepth 10000 in
set_option maxHeartbeats 4000000 in
theorem new_any (w : World) (n : Nat) (h1 : 1 ≤ n) (h4 : n ≤ 4) :
    Calls Try.prog 9 #[.int .i64 (n : Int)] w fun e w' => ∃ S U, e = .returned (.tuple #[.pointer (some ⟨S, 0, none⟩), .int .i64 0]) ∧ PCn w' U S (newC n) ∧ Below w.heap.size w w' ∧ ∀ i, U i → w.heap.size ≤ i := by
  have hmk : ∀ X : World, (Instr.makeSlice 55 (.int .i64 (n : Nat)) (.int .i64 (n : Nat))).run Try.prog X = .ok (.slice (some ⟨X.heap.size, 0, none⟩) n n) (X.alloc (.cells (madeCells #[Value.slice none 0 0] n) 44)) := fun X =>
    run_make_row' (P := Try.prog) 55 44 (.slice none 0 0) 24 Try.underlying55 rows_info rfl .i64 .i64 n (by omega) (by omega) X
  have CN := hide (cn_new w n h1 h4)
  have b1 : ¬ (n : Int) < 1 := by omega
  have b4 : ¬ (4 : Int) < (n : Int) := by omega
  clear h1 h4
  go_enter Try.func9, Try.ntmps9
  go_wp2_with (first
    | (refine wpList_build rfl 57 _ rfl (by kernel_rfl) ?_)
    | fail)
  go_ret2
  exact ⟨w.heap.size + 1, rfl, _, ⟨_, _, CN.out⟩, ((Below.refl _ _).alloc (Nat.le_refl _) _).alloc (by simp) _, fun i hi => by rcases hi with h | h <;> omega⟩
set_option maxRecDepth 10000 in
set_option maxHeartbeats 4000000 in
theorem bad_any (w : World) {n : Int} (hn : n < 1 ∨ 4 < n) :
    Calls Try.prog 9 #[.int .i64 n] w fun e w' => e = .returned (.tuple #[.pointer none, .int .i64 2]) ∧ Below w.heap.size w w' := by
  by_cases h1 : n < 1
  · clear hn
    go_enter Try.func9, Try.ntmps9
    go_wp2_with fail
    go_ret2
    exact ⟨rfl, Below.refl _ _⟩
  · have h2 : 4 < n := by omega
    clear hn
    go_enter Try.func9, Try.ntmps9
    go_wp2_with fail
    go_ret2
    exact ⟨rfl, Below.refl _ _⟩
set_option maxRecDepth 10000 in
set_option maxHeartbeats 4000000 in
theorem nfind_any (w : World) (t : Int) : Calls Try.prog 30 #[.pointer none, .int .i64 t] w fun e w' => e = .returned (.tuple #[.int .i64 (-1), .int .i64 0]) ∧ Below w.heap.size w w' := by
  go_enter Try.func30, Try.ntmps30
  go_wp2_with fail
  go_ret2
  exact ⟨rfl, Below.refl _ _⟩
theorem nhas_any (w : World) (i : Int) : Calls Try.prog 26 #[.pointer none, .int .i64 i] w fun e w' => e = .returned (.bool false) ∧ Below w.heap.size w w' := by
  go_enter Try.func26, Try.ntmps26
  go_wp2_with fail
  go_ret
  exact ⟨rfl, Below.refl _ _⟩
theorem nwait_any (w : World) (t i : Int) : Calls Try.prog 13 #[.pointer none, .int .i64 t, .int .i64 i] w fun e w' => e = .returned (.int .i64 1) ∧ Below w.heap.size w w' := by
  go_enter Try.func13, Try.ntmps13
  go_wp2_with fail
  go_ret
  exact ⟨rfl, Below.refl _ _⟩
theorem nof_any (w : World) (t : Int) : Calls Try.prog 21 #[.pointer none, .int .i64 t] w fun e w' => e = .returned (.int .i64 (-1)) ∧ Below w.heap.size w w' := by
  go_enter Try.func21, Try.ntmps21
  go_wp2_with (go_at_call 30; refine (nfind_any _ t).mono ?_; rintro e w2 ⟨rfl, b2⟩; have B2 := hide b2; clear b2)
  go_ret
  exact ⟨rfl, B2.out⟩
theorem ncan_any (w : World) (t : Int) : Calls Try.prog 18 #[.pointer none, .int .i64 t] w fun e w' => e = .returned (.bool false) ∧ Below w.heap.size w w' := by
  go_enter Try.func18, Try.ntmps18
  go_wp2_with (go_at_call 30; refine (nfind_any _ t).mono ?_; rintro e w2 ⟨rfl, b2⟩; have B2 := hide b2; clear b2)
  go_ret
  exact ⟨rfl, B2.out⟩
theorem nlist_any (w : World) (i : Int) : Calls Try.prog 20 #[.pointer none, .int .i64 i] w fun e w' => e = .returned (.slice none 0 0) ∧ Below w.heap.size w w' := by
  go_enter Try.func20, Try.ntmps20
  go_wp2_with (go_at_call 26; refine (nhas_any _ i).mono ?_; rintro e w2 ⟨rfl, b2⟩; have B2 := hide b2; clear b2)
  go_ret
  exact ⟨rfl, B2.out⟩
end Go.Proofs.Ytmclifmdlcofaaa
