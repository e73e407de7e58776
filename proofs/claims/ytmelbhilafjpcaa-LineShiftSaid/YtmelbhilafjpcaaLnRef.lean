/-
  The document's own line in memory; its methods.
-/
import Derived.Test.YtmelbhilafjpcaaLnPlain
import Derived.Test.YtmelbhilafjpcaaPairs
import Derived.Test.YtmelbhilafjpcaaNumRefs
namespace Go.Proofs.Ytmelbhilafjpcaa
open Go.ChangeShapes Go.WideShapes Go.ChangeAt Go.RowKit
set_option linter.unusedVariables false
set_option linter.unusedSimpArgs false
def lineO (s : Ls) : Obj := .cells #[.int .i64 s.gap, .int .i64 s.next, .int .i64 s.at_, .bool s.pend, .bool s.kept] 38 (0, 0)
/-- The document's line at R. -/
def Rln : Rel Ls := fun w D R s => (∀ i, D i ↔ i = R) ∧ w.heap[R]? = some (lineO s)
theorem keepsRln : Keeps Rln where
  keep := fun h u d => ⟨h.1, (u.block _ (lt_of_heap h.2) (d _ ((h.1 _).2 rfl))).trans h.2⟩
  lt := fun h i hi => by rw [(h.1 i).1 hi]; exact lt_of_heap h.2
theorem Rln.cells {w : World} {D : Nat → Prop} {R : Nat} {s : Ls} (h : Rln w D R s) : w.cell? ⟨R, 0, none⟩ = some (.int .i64 s.gap) ∧ w.cell? ⟨R, 1, none⟩ = some (.int .i64 s.next) ∧ w.cell? ⟨R, 2, none⟩ = some (.int .i64 s.at_) ∧ w.cell? ⟨R, 3, none⟩ = some (.bool s.pend) ∧ w.cell? ⟨R, 4, none⟩ = some (.bool s.kept) := by
  refine ⟨?_, ?_, ?_, ?_, ?_⟩ <;> (rw [cell_of_row _ _ _ _ _ _ h.2]; rfl)
theorem Rln.frozen {w : World} {D : Nat → Prop} {R : Nat} {s : Ls} (h : Rln w D R s) (j : Nat) : w.frozen? ⟨R, j, none⟩ = false := frozen_of_row _ _ _ _ _ h.2
theorem built_line (g : Int) : Try.prog.built 38 [(0, .int .i64 g)] = some #[.int .i64 g, .int .i64 0, .int .i64 0, .bool false, .bool false] := by kernel_rfl
attribute [local go_sem] built_line
theorem rlnew_bad (w : World) (g : Int) (h : ¬ (1 ≤ g ∧ g ≤ 1000)) : Calls Try.prog 10 #[.int .i64 g] w fun e w' => e = .returned (.tuple #[.pointer none, .int .i64 2]) ∧ w = w' := by
  by_cases h1 : g < 1
  · clear h
    go_enter Try.func10, Try.ntmps10
    go_wp2_with fail
    go_ret2
    exact ⟨rfl, rfl⟩
  · have h2 : 1000 < g := by omega
    clear h
    go_enter Try.func10, Try.ntmps10
    go_wp2_with fail
    go_ret2
    exact ⟨rfl, rfl⟩
theorem rlnew_ok (w : World) (g : Int) (h1 : 1 ≤ g) (h2 : g ≤ 1000) : Calls Try.prog 10 #[.int .i64 g] w fun e w' =>
    ∃ R D, e = .returned (.tuple #[.pointer (some ⟨R, 0, none⟩), .int .i64 0]) ∧ Rln w' D R (newL g) ∧ Below w.heap.size w w' ∧ ∀ i, D i → w.heap.size ≤ i := by
  have n1 : ¬ g < 1 := by omega
  have n2 : ¬ 1000 < g := by omega
  go_enter Try.func10, Try.ntmps10
  go_wp2_with (refine wpList_build rfl 38 _ rfl (by kernel_rfl) ?_)
  refine bodyPost_ret (v := .tuple #[.pointer (some ⟨w.heap.size, 0, none⟩), .int .i64 0]) (by simp [results, Try.results10, go_sem]) rfl ?_
  exact ⟨w.heap.size, rfl, (fun i => i = w.heap.size), ⟨fun i => Iff.rfl, heap_alloc_new _ _⟩, (Below.refl _ _).alloc (Nat.le_refl _) _, fun i hi => by rw [hi]; exact Nat.le_refl _⟩
set_option maxHeartbeats 2000000 in
theorem rlarr_any {w : World} {D : Nat → Prop} {R : Nat} {s : Ls} (h : Rln w D R s) (now : Int) : Calls Try.prog 13 #[.pointer (some ⟨R, 0, none⟩), .int .i64 now] w (SideO (fun w' D' => Rln w' D' R (arrS s now)) D w (.bool (arrB s now))) := by
  obtain ⟨c0, c1, c2, c3, c4⟩ := h.cells
  have f1 := h.frozen 1
  have f2 := h.frozen 2
  have f3 := h.frozen 3
  have f4 := h.frozen 4
  have H := hide h
  have hR := (h.1 R).2 rfl
  have HR := hide hR
  have e0 := h.2
  have E0 := hide e0
  clear h hR e0
  obtain ⟨gap, next, at_, pend, kept⟩ := s
  dsimp only at c0 c1 c2 c3 c4
  by_cases hb : arrB ⟨gap, next, at_, pend, kept⟩ now = true
  · have hb2 : pend = false ∧ next ≤ now := by unfold arrB at hb; simpa using hb
    obtain ⟨rfl, hle⟩ := hb2
    have n1 : ¬ now < next := by omega
    have HB := hide hb
    clear hb hle
    go_enter Try.func13, Try.ntmps13
    go_wp2_with (go_at_call 24; refine (radd_any _ _ _).mono ?_; rintro e w' ⟨rfl, rfl⟩)
    go_ret
    refine ⟨ret_bool HB.out.symm, D, ⟨H.out.1, ?_⟩, (((Touch.refl D w).setCell (p := ⟨R, 3, none⟩) HR.out _).setCell (p := ⟨R, 2, none⟩) HR.out _).setCell (p := ⟨R, 1, none⟩) HR.out _, fun i hi => .inl hi⟩
    unfold arrS
    rw [if_pos HB.out, heap_setCell_same _ _ _ _ _ _ (heap_setCell_same _ _ _ _ _ _ (heap_setCell_same _ _ _ _ _ _ E0.out))]
    rfl
  · have hb2 : arrB ⟨gap, next, at_, pend, kept⟩ now = false := by simpa using hb
    have HB := hide hb
    have HF := hide hb2
    have fin : Hid (SideO (fun w' D' => Rln w' D' R (arrS ⟨gap, next, at_, pend, kept⟩ now)) D w (.bool false) (.returned (.bool false)) (w.setCell ⟨R, 4, none⟩ (.bool true))) := by
      refine ⟨rfl, D, ⟨H.out.1, ?_⟩, (Touch.refl D w).setCell (p := ⟨R, 4, none⟩) HR.out _, fun i hi => .inl hi⟩
      unfold arrS
      rw [if_neg HB.out, heap_setCell_same _ _ _ _ _ _ E0.out]
      rfl
    rw [HF.out]
    clear hb hb2
    cases pend with
    | true =>
      go_enter Try.func13, Try.ntmps13
      go_wp2_with fail
      go_ret
      exact fin
    | false =>
      have n1 : now < next := by have := HF.out; unfold arrB at this; simpa using this
      go_enter Try.func13, Try.ntmps13
      go_wp2_with fail
      go_ret
      exact fin
set_option maxHeartbeats 2000000 in
theorem rltick_any {w : World} {D : Nat → Prop} {R : Nat} {s : Ls} (h : Rln w D R s) (now : Int) : Calls Try.prog 15 #[.pointer (some ⟨R, 0, none⟩), .int .i64 now] w (SideO (fun w' D' => Rln w' D' R (tckS s now)) D w (.bool (tckB s now))) := by
  obtain ⟨c0, c1, c2, c3, c4⟩ := h.cells
  have f4 := h.frozen 4
  have H := hide h
  have hR := (h.1 R).2 rfl
  have HR := hide hR
  have e0 := h.2
  have E0 := hide e0
  clear h hR e0
  obtain ⟨gap, next, at_, pend, kept⟩ := s
  dsimp only at c0 c1 c2 c3 c4
  by_cases hb : tckB ⟨gap, next, at_, pend, kept⟩ now = true
  · have hb2 : kept = true ∧ pend = false ∧ next ≤ now := by unfold tckB arrB at hb; simpa using hb
    obtain ⟨rfl, rfl, hle⟩ := hb2
    have n1 : ¬ now < next := by omega
    have HB := hide hb
    have A1 : Hid (arrB ⟨gap, next, at_, false, false⟩ now = true) := by
      show _ = _
      unfold arrB
      simpa using hle
    clear hb hle
    have R1 := hide (show Rln (w.setCell ⟨R, 4, none⟩ (.bool false)) D R ⟨gap, next, at_, false, false⟩ from ⟨H.out.1, by rw [heap_setCell_same _ _ _ _ _ _ E0.out]; rfl⟩)
    have T1 := hide ((Touch.refl D w).setCell (p := ⟨R, 4, none⟩) HR.out (.bool false))
    go_enter Try.func15, Try.ntmps15
    go_wp2_with (go_at_call 13; refine (rlarr_any R1.out now).mono ?_; rintro e w' ⟨rfl, D', r2, t2, d2⟩; have R2 := hide r2; have T2 := hide t2; have D2 := hide d2; clear r2 t2 d2)
    go_ret
    refine ⟨ret_bool (by rw [A1.out, HB.out]), D', ?_, T1.out.trans T2.out (fun i hi => .inl hi), fun i hi => (D2.out i hi).imp id fun e => by have := T1.out.size; omega⟩
    have := R2.out
    unfold arrS at this
    rw [if_pos A1.out] at this
    unfold tckS
    rw [if_pos HB.out]
    exact this
  · have hb2 : tckB ⟨gap, next, at_, pend, kept⟩ now = false := by simpa using hb
    have HF := hide hb2
    have fin : Hid (SideO (fun w' D' => Rln w' D' R (tckS ⟨gap, next, at_, pend, kept⟩ now)) D w (.bool false) (.returned (.bool false)) w) := by
      refine ⟨rfl, D, ?_, Touch.refl D w, fun i hi => .inl hi⟩
      unfold tckS
      rw [if_neg hb]
      exact H.out
    rw [HF.out]
    clear hb hb2
    cases kept with
    | false =>
      go_enter Try.func15, Try.ntmps15
      go_wp2_with fail
      go_ret
      exact fin
    | true =>
      cases pend with
      | true =>
        go_enter Try.func15, Try.ntmps15
        go_wp2_with fail
        go_ret
        exact fin
      | false =>
        have n1 : now < next := by have := HF.out; unfold tckB arrB at this; simpa using this
        go_enter Try.func15, Try.ntmps15
        go_wp2_with fail
        go_ret
        exact fin
set_option maxHeartbeats 2000000 in
theorem rltake_any {w : World} {D : Nat → Prop} {R : Nat} {s : Ls} (h : Rln w D R s) : Calls Try.prog 17 #[.pointer (some ⟨R, 0, none⟩)] w (SideO (fun w' D' => Rln w' D' R (tkS s)) D w (.tuple #[.int .i64 (atL s), .bool s.pend])) := by
  obtain ⟨c0, c1, c2, c3, c4⟩ := h.cells
  have f3 := h.frozen 3
  have H := hide h
  have hR := (h.1 R).2 rfl
  have HR := hide hR
  have e0 := h.2
  have E0 := hide e0
  clear h hR e0
  obtain ⟨gap, next, at_, pend, kept⟩ := s
  dsimp only at c0 c1 c2 c3 c4
  cases pend with
  | true =>
    go_enter Try.func17, Try.ntmps17
    go_wp2_with fail
    go_ret2
    refine ⟨rfl, D, ⟨H.out.1, ?_⟩, (Touch.refl D w).setCell (p := ⟨R, 3, none⟩) HR.out _, fun i hi => .inl hi⟩
    rw [heap_setCell_same _ _ _ _ _ _ E0.out]
    rfl
  | false =>
    go_enter Try.func17, Try.ntmps17
    go_wp2_with fail
    go_ret2
    exact ⟨rfl, D, H.out, Touch.refl D w, fun i hi => .inl hi⟩
end Go.Proofs.Ytmelbhilafjpcaa
