/-
  The document's own conditions: New, List.
-/
import Derived.Test.YtmclifmdlcofaaaCdRef
import Derived.Deep.OwnRows
namespace Go.Proofs.Ytmclifmdlcofaaa
open Go.ChangeShapes Go.WideShapes Go.ChangeAt Go.RowKit
set_option linter.unusedVariables false
set_option linter.unusedSimpArgs false
theorem rcnew_bad (w : World) (n : Int) (h : n < 1 ∨ 4 < n) : Calls Try.prog 10 #[.int .i64 n] w fun e w' => e = .returned (.tuple #[.pointer none, .int .i64 2]) ∧ w = w' := by
  by_cases h1 : n < 1
  · clear h
    go_enter Try.func10, Try.ntmps10
    go_wp2_with fail
    go_ret2
    exact ⟨rfl, rfl⟩
  · have h2 : 4 < n := by omega
    clear h
    go_enter Try.func10, Try.ntmps10
    go_wp2_with fail
    go_ret2
    exact ⟨rfl, rfl⟩
theorem built_conds (n : Nat) (a : Option Addr) : Try.prog.built 59 [(0, .slice a n n)] = some #[.slice a n n] := by kernel_rfl
attribute [local go_sem] built_conds
theorem rows_new {w : World} {G n : Nat} {o : Obj} (hG : w.heap[G]? = some (.cells (List.replicate n (.slice none 0 0)).toArray 44 (0, 0))) (ho : o = .cells #[.slice (some ⟨G, 0, none⟩) n n] 59) :
    RowsC (w.alloc o) (fun i => i = G ∨ i = w.heap.size) w.heap.size G (List.replicate n (.slice none 0 0)) (newC n) := by
  have hlt := lt_of_heap hG
  have b := (Below.refl w.heap.size w).alloc (Nat.le_refl _) o
  refine ⟨.inr rfl, .inl rfl, by omega, ?_, by simp [newC], ?_, (b.block G hlt).trans hG, ?_⟩
  · rintro i (rfl | rfl) <;> simp
    omega
  · rw [heap_alloc_new, ho]; simp [newC]
  · intro i v l hv hl
    have e1 : v = .slice none 0 0 := (List.mem_replicate.1 (List.mem_of_getElem? hv)).2
    have e2 : l = [] := (List.mem_replicate.1 (List.mem_of_getElem? hl)).2
    subst e1 e2
    exact ⟨World.ownsRow_nil _ _ _ _, fun b hb => by cases hb⟩
theorem rowty_info : (Try.prog.info? 44).map (fun i => (i.zero, i.size, i.bytes)) = some (some (.slice none 0 0), 1, 24) := by kernel_rfl
theorem made_nils (n : Nat) : madeCells #[.slice none 0 0] n = (List.replicate n (.slice none 0 0)).toArray := by
  apply Array.ext
  · simp [madeCells]
  · intro i h1 h2
    simp [madeCells, Nat.mod_one]
set_option maxHeartbeats 4000000 in
theorem rcnew_ok (w : World) (n : Nat) (h1 : 1 ≤ n) (h2 : n ≤ 4) : Calls Try.prog 10 #[.int .i64 (n : Int)] w fun e w' =>
    ∃ R D, e = .returned (.tuple #[.pointer (some ⟨R, 0, none⟩), .int .i64 0]) ∧ Rcd w' D R (newC n) ∧ Below w.heap.size w w' ∧ ∀ i, D i → w.heap.size ≤ i := by
  obtain ⟨i0, hi0, hz0, hz1, hz2⟩ := info_parts rowty_info
  have n1 : ¬ (n : Int) < 1 := by omega
  have n2 : ¬ (4 : Int) < (n : Int) := by omega
  have R0 := hide (rows_new (w := w.alloc (.cells (List.replicate n (.slice none 0 0)).toArray 44)) (G := w.heap.size) (n := n) (heap_alloc_new _ _) rfl)
  go_enter Try.func10, Try.ntmps10
  go_wp2_with (first
    | (refine wpList_make_row _ rfl (.tmp 10) (.tmp 10) _ rfl 44 i0 _ Try.underlying55 hi0 hz0 hz1 rfl .i64 .i64 n rfl rfl (by rw [hz2]; omega) (by omega) ?_; rw [made_nils])
    | (refine wpList_build rfl 59 _ rfl (by kernel_rfl) ?_))
  refine bodyPost_ret (v := .tuple #[.pointer (some ⟨(w.alloc (.cells (List.replicate n (.slice none 0 0)).toArray 44)).heap.size, 0, none⟩), .int .i64 0]) (by simp [results, Try.results10, go_sem]) rfl ?_
  refine ⟨_, rfl, _, ⟨_, _, R0.out⟩, ((Below.refl _ _).alloc (Nat.le_refl _) _).alloc (by simp) _, ?_⟩
  rintro i (rfl | rfl)
  · exact Nat.le_refl _
  · simp
set_option maxHeartbeats 4000000 in
theorem rclist_any {w : World} {D : Nat → Prop} {R : Nat} {L : Cs} (h : Rcd w D R L) (hn : L.length ≤ 1000) (i : Int) :
    Calls Try.prog 24 #[.pointer (some ⟨R, 0, none⟩), .int .i64 i] w fun e w' => ∃ v, e = .returned v ∧ w = w' ∧ Hid (w.ownsRow 0 3 1 v (lstC L i).length ((lstC L i).map (Value.int .i64)) ∧ ∀ b, v.ownBlock = some b → D b) := by
  obtain ⟨G, vs, h⟩ := h
  have cR := h.cell
  cases hi : isCond L i with
  | false =>
    have HN := hide (lstC_out hi)
    have hb : i < 0 ∨ (L.length : Int) ≤ i := by
      have : ¬ (0 ≤ i ∧ i < (L.length : Int)) := by simpa [isCond] using hi
      omega
    rw [HN.out]
    have FIN := hide (show Hid (w.ownsRow 0 3 1 (.slice none 0 0) ([] : List Int).length (([] : List Int).map (Value.int .i64)) ∧ ∀ b, (Value.slice none 0 0).ownBlock = some b → D b) from ⟨World.ownsRow_nil _ _ _ _, fun b hb => by cases hb⟩)
    clear h hi
    by_cases h0 : i < 0
    · clear hb
      go_enter Try.func24, Try.ntmps24
      go_wp2_with fail
      go_ret
      exact ⟨_, rfl, rfl, FIN.out⟩
    · have h1 : (L.length : Int) ≤ i := by omega
      clear hb
      go_enter Try.func24, Try.ntmps24
      go_wp2_with fail
      go_ret
      exact ⟨_, rfl, rfl, FIN.out⟩
  | true =>
    obtain ⟨k, rfl, hk⟩ := isCond_iff.1 hi
    obtain ⟨v, l, hl1, hv1, cG, ho⟩ := h.at_ hk
    have FIN := hide (show Hid (w.ownsRow 0 3 1 v l.length (l.map (Value.int .i64)) ∧ ∀ b, v.ownBlock = some b → D b) from ⟨ho, fun b hb => ((h.row k v l hv1 hl1).2 b hb).1⟩)
    rw [lstC_get hl1]
    have k0 : (0 : Int) ≤ (k : Int) := by omega
    have k1 : (k : Int) < (L.length : Int) := by omega
    obtain ⟨A, c, rfl, _⟩ := row_open ho
    clear h hi ho hl1 hv1
    go_enter Try.func24, Try.ntmps24
    go_wp2_with fail
    go_ret
    exact ⟨_, rfl, rfl, FIN.out⟩
end Go.Proofs.Ytmclifmdlcofaaa
