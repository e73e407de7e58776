/-
  The program's line in memory; its methods (the landed code of stage 14).
-/
import Derived.Test.YtmelbhilafjpcaaLnBoth
import Derived.Test.YtmelbhilafjpcaaNumSumW
namespace Go.Proofs.Ytmelbhilafjpcaa
open Go.ChangeShapes Go.WideShapes Go.ChangeAt Go.RowKit
set_option linter.unusedVariables false
set_option linter.unusedSimpArgs false
def pLineO (s : Ls) : Obj := .cells #[.int .i64 s.gap, .int .i64 s.next, .int .i64 (atL s), .bool s.pend, .bool s.kept] 50 (0, 0)
/-- The program's line at S. -/
def Pln : Rel Ls := fun w U S s => (∀ i, U i ↔ i = S) ∧ w.heap[S]? = some (pLineO s)
theorem keepsPln : Keeps Pln where
  keep := fun h u d => ⟨h.1, (u.block _ (lt_of_heap h.2) (d _ ((h.1 _).2 rfl))).trans h.2⟩
  lt := fun h i hi => by rw [(h.1 i).1 hi]; exact lt_of_heap h.2
theorem Pln.cells {w : World} {U : Nat → Prop} {S : Nat} {s : Ls} (h : Pln w U S s) : w.cell? ⟨S, 0, none⟩ = some (.int .i64 s.gap) ∧ w.cell? ⟨S, 1, none⟩ = some (.int .i64 s.next) ∧ w.cell? ⟨S, 2, none⟩ = some (.int .i64 (atL s)) ∧ w.cell? ⟨S, 3, none⟩ = some (.bool s.pend) ∧ w.cell? ⟨S, 4, none⟩ = some (.bool s.kept) := by
  refine ⟨?_, ?_, ?_, ?_, ?_⟩ <;> (rw [cell_of_row _ _ _ _ _ _ h.2]; rfl)
theorem Pln.drew {w : World} {U : Nat → Prop} {S : Nat} {s : Ls} (h : Pln w U S s) : Pln w.drew U S s := h
theorem Pln.frozen {w : World} {U : Nat → Prop} {S : Nat} {s : Ls} (h : Pln w U S s) (j : Nat) : w.frozen? ⟨S, j, none⟩ = false := frozen_of_row _ _ _ _ _ h.2
theorem built_gate (g : Int) : Try.prog.built 47 [(0, .int .i64 g)] = some #[.int .i64 g, .int .i64 0, .int .i64 0, .bool false] := by kernel_rfl
theorem built_pline (g : Int) : Try.prog.built 50 [(0, .agg #[.int .i64 g, .int .i64 0, .int .i64 0, .bool false])] = some #[.int .i64 g, .int .i64 0, .int .i64 0, .bool false, .bool false] := by kernel_rfl
attribute [local go_sem] built_gate built_pline
theorem plnew_bad (w : World) (g : Int) (h : ¬ (1 ≤ g ∧ g ≤ 1000)) : Calls Try.prog 9 #[.int .i64 g] w fun e w' => e = .returned (.tuple #[.pointer none, .int .i64 2]) ∧ Below w.heap.size w w' := by
  by_cases h1 : g < 1
  · clear h
    go_enter Try.func9, Try.ntmps9
    go_wp2_with fail
    go_ret2
    exact ⟨rfl, Below.refl _ _⟩
  · have h2 : 1000 < g := by omega
    clear h
    go_enter Try.func9, Try.ntmps9
    go_wp2_with fail
    go_ret2
    exact ⟨rfl, Below.refl _ _⟩
theorem plnew_ok (w : World) (g : Int) (h1 : 1 ≤ g) (h2 : g ≤ 1000) : Calls Try.prog 9 #[.int .i64 g] w fun e w' =>
    ∃ S U, e = .returned (.tuple #[.pointer (some ⟨S, 0, none⟩), .int .i64 0]) ∧ Pln w' U S (newL g) ∧ Below w.heap.size w w' ∧ ∀ i, U i → w.heap.size ≤ i := by
  have n1 : ¬ g < 1 := by omega
  have n2 : ¬ 1000 < g := by omega
  go_enter Try.func9, Try.ntmps9
  go_wp2_with (first
    | (refine wpList_build rfl 47 _ rfl (by kernel_rfl) ?_)
    | (refine wpList_build rfl 50 _ rfl (by kernel_rfl) ?_))
  refine bodyPost_ret (v := .tuple #[.pointer (some ⟨w.heap.size, 0, none⟩), .int .i64 0]) (by simp [results, Try.results9, go_sem]) rfl ?_
  exact ⟨w.heap.size, rfl, (fun i => i = w.heap.size), ⟨fun i => Iff.rfl, heap_alloc_new _ _⟩, (Below.refl _ _).alloc (Nat.le_refl _) _, fun i hi => by rw [hi]; exact Nat.le_refl _⟩
/-- What let makes of it. -/
def letS (s : Ls) (now : Int) : Ls := if arrB s now = true then { s with pend := true, at_ := now, next := nextL s now } else s
set_option maxHeartbeats 2000000 in
theorem let_any {w : World} {U : Nat → Prop} {S : Nat} {s : Ls} (h : Pln w U S s) (now : Int) : Calls Try.prog 23 #[.pointer (some ⟨S, 0, none⟩), .int .i64 now] w (SideO (fun w' U' => Pln w' U' S (letS s now)) U w (.bool (arrB s now))) := by
  obtain ⟨c0, c1, c2, c3, c4⟩ := h.cells
  have f1 := h.frozen 1
  have f2 := h.frozen 2
  have f3 := h.frozen 3
  have H := hide h
  have hR := (h.1 S).2 rfl
  have HR := hide hR
  have e0 := h.2
  have E0 := hide e0
  have hlt := hide (lt_of_heap e0)
  clear h hR e0
  obtain ⟨gap, next, at_, pend, kept⟩ := s
  dsimp only at c0 c1 c2 c3 c4
  by_cases hb : arrB ⟨gap, next, at_, pend, kept⟩ now = true
  · have hb2 : pend = false ∧ next ≤ now := by unfold arrB at hb; simpa using hb
    obtain ⟨rfl, hle⟩ := hb2
    have n1 : ¬ now < next := by omega
    have HB := hide hb
    clear hb hle
    have W3 := hide (show ∀ o : Obj, (((w.setCell ⟨S, 2, none⟩ (.int .i64 now)).setCell ⟨S, 3, none⟩ (.bool true)).alloc o).heap[S]? = some (.cells #[.int .i64 gap, .int .i64 next, .int .i64 now, .bool true, .bool kept] 50 (0, 0)) from fun o => by
      rw [heap_alloc_old _ _ (by simpa [World.setCell] using hlt.out), heap_setCell_same _ _ _ _ _ _ (heap_setCell_same _ _ _ _ _ _ E0.out)]
      rfl)
    have q1 : ∀ o : Obj, (((w.setCell ⟨S, 2, none⟩ (.int .i64 now)).setCell ⟨S, 3, none⟩ (.bool true)).alloc o).cell? ⟨S, 1, none⟩ = some (.int .i64 next) := fun o => by rw [cell_of_row _ _ _ _ _ _ (W3.out o)]; rfl
    have q2 : ∀ o : Obj, (((w.setCell ⟨S, 2, none⟩ (.int .i64 now)).setCell ⟨S, 3, none⟩ (.bool true)).alloc o).frozen? ⟨S, 1, none⟩ = false := fun o => frozen_of_row _ _ _ _ _ (W3.out o)
    go_enter Try.func23, Try.ntmps23
    go_wp2_with (go_at_call 27; with_reducible refine (add_any _ 2 2 [_, _] _ (ints_two_at _ _ _ _ _ _ (by simp)) (by omega)).mono ?_; rintro e w' ⟨rfl, rfl⟩)
    go_ret
    refine ⟨ret_bool HB.out.symm, U, ⟨H.out.1, ?_⟩, ((((Touch.refl U w).setCell (p := ⟨S, 2, none⟩) HR.out _).setCell (p := ⟨S, 3, none⟩) HR.out _).alloc _).setCell (p := ⟨S, 1, none⟩) HR.out _, fun i hi => .inl hi⟩
    unfold letS
    rw [if_pos HB.out, heap_setCell_same _ _ _ _ _ _ (W3.out _), sum_two]
    rfl
  · have hb2 : arrB ⟨gap, next, at_, pend, kept⟩ now = false := by simpa using hb
    have HB := hide hb
    have HF := hide hb2
    have fin : Hid (SideO (fun w' U' => Pln w' U' S (letS ⟨gap, next, at_, pend, kept⟩ now)) U w (.bool false) (.returned (.bool false)) w) := by
      refine ⟨rfl, U, ?_, Touch.refl U w, fun i hi => .inl hi⟩
      unfold letS
      rw [if_neg HB.out]
      exact H.out
    rw [HF.out]
    clear hb hb2
    cases pend with
    | true =>
      go_enter Try.func23, Try.ntmps23
      go_wp2_with fail
      go_ret
      exact fin
    | false =>
      have n1 : now < next := by have := HF.out; unfold arrB at this; simpa using this
      go_enter Try.func23, Try.ntmps23
      go_wp2_with fail
      go_ret
      exact fin
theorem arrS_let (s : Ls) (now : Int) : arrS s now = if arrB s now = true then letS s now else { letS s now with kept := true } := by
  unfold arrS letS
  by_cases h : arrB s now = true
  · rw [if_pos h, if_pos h, if_pos h]
  · rw [if_neg h, if_neg h, if_neg h]
theorem arrS_let0 {s : Ls} {now : Int} (h : arrB s now = false) : arrS s now = { letS s now with kept := true } := by
  rw [arrS_let, if_neg (by rw [h]; simp)]
theorem arrS_let1 {s : Ls} {now : Int} (h : arrB s now = true) : arrS s now = letS s now := by
  rw [arrS_let, if_pos h]
theorem tckS_let1 {s : Ls} {now : Int} (h : tckB s now = true) : tckS s now = { letS s now with kept := false } := by
  have h2 : arrB s now = true := by unfold tckB at h; simp at h; exact h.2
  unfold tckS letS
  rw [if_pos h, if_pos h2]
theorem tckS_let0 {s : Ls} {now : Int} (h : tckB s now = false) (hk : s.kept = true) : tckS s now = letS s now := by
  have h2 : arrB s now = false := by unfold tckB at h; rw [hk] at h; simpa using h
  unfold tckS letS
  rw [if_neg (by rw [h]; simp), if_neg (by rw [h2]; simp)]
/-- What is kept back, written over. -/
theorem Pln.setKept {w : World} {U : Nat → Prop} {S : Nat} {s : Ls} (h : Pln w U S s) (b : Bool) : Pln (w.setCell ⟨S, 4, none⟩ (.bool b)) U S { s with kept := b } ∧ Touch U w (w.setCell ⟨S, 4, none⟩ (.bool b)) :=
  ⟨⟨h.1, by rw [heap_setCell_same _ _ _ _ _ _ h.2]; rfl⟩, (Touch.refl U w).setCell (p := ⟨S, 4, none⟩) ((h.1 S).2 rfl) _⟩
abbrev letF (S : Nat) : Value := .func (.func 23) #[.pointer (some ⟨S, 0, none⟩)] #[]
set_option maxHeartbeats 2000000 in
theorem karr_any {w : World} {U : Nat → Prop} {S : Nat} {s : Ls} (h : Pln w U S s) (now : Int) : Calls Try.prog 22 #[.pointer (some ⟨S, 4, none⟩), letF S, .int .i64 now] w (SideO (fun w' U' => Pln w' U' S (arrS s now)) U w (.bool (arrB s now))) := by
  have L := hide (let_any h now)
  cases hb : arrB s now with
  | true =>
    rw [hb] at L
    have HB := hide hb
    clear hb
    go_enter Try.func22, Try.ntmps22
    go_wp2_with (go_at_call 23; refine L.out.mono ?_; rintro e w1 ⟨rfl, U1, p1, t1, u1⟩; have P1 := hide p1; have T1 := hide t1; have V1 := hide u1; clear p1 t1 u1)
    go_ret
    exact ⟨rfl, U1, (arrS_let1 HB.out) ▸ P1.out, T1.out, V1.out⟩
  | false =>
    rw [hb] at L
    have HB := hide hb
    clear hb
    go_enter Try.func22, Try.ntmps22
    go_wp2_with (go_at_call 23; refine L.out.mono ?_; rintro e w1 ⟨rfl, U1, p1, t1, u1⟩; have q1 := p1.cells.2.2.2.2; have q2 := p1.frozen 4; have P1 := hide p1; have T1 := hide t1; have V1 := hide u1; clear p1 t1 u1)
    go_ret
    have K := P1.out.setKept true
    exact ⟨rfl, U1, (arrS_let0 HB.out) ▸ K.1, T1.out.trans K.2 (fun i hi => V1.out i hi), V1.out⟩
set_option maxHeartbeats 2000000 in
theorem kaga_any {w : World} {U : Nat → Prop} {S : Nat} {s : Ls} (h : Pln w U S s) (now : Int) : Calls Try.prog 25 #[.pointer (some ⟨S, 4, none⟩), letF S, .int .i64 now] w (SideO (fun w' U' => Pln w' U' S (tckS s now)) U w (.bool (tckB s now))) := by
  have L := hide (let_any h now)
  have c4 := h.cells.2.2.2.2
  cases hk : s.kept with
  | false =>
    have hb : tckB s now = false := by unfold tckB; rw [hk]; rfl
    have hs : tckS s now = s := by unfold tckS; rw [if_neg (by rw [hb]; simp)]
    rw [hk] at c4
    have H := hide h
    rw [hb]
    have HS := hide hs
    clear h hk hb hs L
    go_enter Try.func25, Try.ntmps25
    go_wp2_with fail
    go_ret
    exact ⟨rfl, U, HS.out.symm ▸ H.out, Touch.refl U w, fun i hi => .inl hi⟩
  | true =>
    have hab : arrB s now = tckB s now := by unfold tckB; rw [hk]; rfl
    rw [hk] at c4
    rw [hab] at L
    have HK := hide hk
    clear h hk hab
    cases hb : tckB s now with
    | true =>
      rw [hb] at L
      have HB := hide hb
      clear hb
      go_enter Try.func25, Try.ntmps25
      go_wp2_with (go_at_call 23; refine L.out.mono ?_; rintro e w1 ⟨rfl, U1, p1, t1, u1⟩; have q1 := p1.cells.2.2.2.2; have q2 := p1.frozen 4; have P1 := hide p1; have T1 := hide t1; have V1 := hide u1; clear p1 t1 u1)
      go_ret
      have K := P1.out.setKept false
      exact ⟨rfl, U1, (tckS_let1 HB.out) ▸ K.1, T1.out.trans K.2 (fun i hi => V1.out i hi), V1.out⟩
    | false =>
      rw [hb] at L
      have HB := hide hb
      clear hb
      go_enter Try.func25, Try.ntmps25
      go_wp2_with (go_at_call 23; refine L.out.mono ?_; rintro e w1 ⟨rfl, U1, p1, t1, u1⟩; have P1 := hide p1; have T1 := hide t1; have V1 := hide u1; clear p1 t1 u1)
      go_ret
      exact ⟨rfl, U1, (tckS_let0 HB.out HK.out) ▸ P1.out, T1.out, V1.out⟩
set_option maxHeartbeats 2000000 in
theorem plarr_any {w : World} {U : Nat → Prop} {S : Nat} {s : Ls} (h : Pln w U S s) (now : Int) : Calls Try.prog 12 #[.pointer (some ⟨S, 0, none⟩), .int .i64 now] w (SideO (fun w' U' => Pln w' U' S (arrS s now)) U w (.bool (arrB s now))) := by
  have hmf : ∀ (fn : Fn) (first cap : Array Value) (w : World), (Instr.makeFunc fn first cap).run Try.prog w = .ok (.func fn first cap) w := fun _ _ _ _ => rfl
  have L := hide (karr_any (h.drew) now)
  clear h
  go_enter Try.func12, Try.ntmps12
  go_wp2_with fail
  go_region_held3 (fun _ => True) (exact trivial) (first | (go_at_call 22; refine L.out.mono ?_; rintro e w1 ⟨rfl, U1, p1, t1, u1⟩; have P1 := hide p1; have T1 := hide t1; have V1 := hide u1; clear p1 t1 u1))
  go_wp2_with fail
  go_ret
  exact ⟨rfl, U1, P1.out, ((Touch.refl U w).drewN 1).trans T1.out (fun i hi => .inl hi), V1.out⟩
theorem plarr_nil (w : World) (now : Int) : Calls Try.prog 12 #[.pointer none, .int .i64 now] w fun e w' => e = .returned (.bool false) ∧ Below w.heap.size w w' := by
  go_enter Try.func12, Try.ntmps12
  go_wp2_with fail
  go_quiet (fail)
  go_wp2_with fail
  go_ret
  exact ⟨rfl, below_drewN (Below.refl _ _) _⟩
set_option maxHeartbeats 2000000 in
theorem pltick_any {w : World} {U : Nat → Prop} {S : Nat} {s : Ls} (h : Pln w U S s) (now : Int) : Calls Try.prog 14 #[.pointer (some ⟨S, 0, none⟩), .int .i64 now] w (SideO (fun w' U' => Pln w' U' S (tckS s now)) U w (.bool (tckB s now))) := by
  have hmf : ∀ (fn : Fn) (first cap : Array Value) (w : World), (Instr.makeFunc fn first cap).run Try.prog w = .ok (.func fn first cap) w := fun _ _ _ _ => rfl
  have L := hide (kaga_any (h.drew) now)
  clear h
  go_enter Try.func14, Try.ntmps14
  go_wp2_with fail
  go_region_held3 (fun _ => True) (exact trivial) (first | (go_at_call 25; refine L.out.mono ?_; rintro e w1 ⟨rfl, U1, p1, t1, u1⟩; have P1 := hide p1; have T1 := hide t1; have V1 := hide u1; clear p1 t1 u1))
  go_wp2_with fail
  go_ret
  exact ⟨rfl, U1, P1.out, ((Touch.refl U w).drewN 1).trans T1.out (fun i hi => .inl hi), V1.out⟩
theorem pltick_nil (w : World) (now : Int) : Calls Try.prog 14 #[.pointer none, .int .i64 now] w fun e w' => e = .returned (.bool false) ∧ Below w.heap.size w w' := by
  go_enter Try.func14, Try.ntmps14
  go_wp2_with fail
  go_quiet (fail)
  go_wp2_with fail
  go_ret
  exact ⟨rfl, below_drewN (Below.refl _ _) _⟩
theorem plpend_any {w : World} {U : Nat → Prop} {S : Nat} {s : Ls} (h : Pln w U S s) : Calls Try.prog 18 #[.pointer (some ⟨S, 0, none⟩)] w fun e w' => e = .returned (.tuple #[.int .i64 (atL s), .bool s.pend]) ∧ Below w.heap.size w w' := by
  obtain ⟨c0, c1, c2, c3, c4⟩ := h.cells
  clear h
  go_enter Try.func18, Try.ntmps18
  go_wp2_with fail
  go_region
  go_wp2_with fail
  go_ret2
  exact ⟨rfl, below_drewN (Below.refl _ _) 1⟩
theorem plpend_nil (w : World) : Calls Try.prog 18 #[.pointer none] w fun e w' => e = .returned (.tuple #[.int .i64 0, .bool false]) ∧ Below w.heap.size w w' := by
  go_enter Try.func18, Try.ntmps18
  go_wp2_with fail
  go_ret2
  exact ⟨rfl, Below.refl _ _⟩
theorem plmask_any {w : World} {U : Nat → Prop} {S : Nat} {s : Ls} (h : Pln w U S s) : Calls Try.prog 19 #[.pointer (some ⟨S, 0, none⟩)] w fun e w' => e = .returned (.bool s.kept) ∧ Below w.heap.size w w' := by
  obtain ⟨c0, c1, c2, c3, c4⟩ := h.cells
  clear h
  go_enter Try.func19, Try.ntmps19
  go_wp2_with fail
  go_ret
  exact ⟨rfl, Below.refl _ _⟩
theorem plmask_nil (w : World) : Calls Try.prog 19 #[.pointer none] w fun e w' => e = .returned (.bool false) ∧ Below w.heap.size w w' := by
  go_enter Try.func19, Try.ntmps19
  go_wp2_with fail
  go_ret
  exact ⟨rfl, Below.refl _ _⟩
theorem plnext_any {w : World} {U : Nat → Prop} {S : Nat} {s : Ls} (h : Pln w U S s) : Calls Try.prog 20 #[.pointer (some ⟨S, 0, none⟩)] w fun e w' => e = .returned (.int .i64 s.next) ∧ Below w.heap.size w w' := by
  obtain ⟨c0, c1, c2, c3, c4⟩ := h.cells
  clear h
  go_enter Try.func20, Try.ntmps20
  go_wp2_with fail
  go_ret
  exact ⟨rfl, Below.refl _ _⟩
theorem plnext_nil (w : World) : Calls Try.prog 20 #[.pointer none] w fun e w' => e = .returned (.int .i64 0) ∧ Below w.heap.size w w' := by
  go_enter Try.func20, Try.ntmps20
  go_wp2_with fail
  go_ret
  exact ⟨rfl, Below.refl _ _⟩
set_option maxHeartbeats 2000000 in
theorem plclear_any {w : World} {U : Nat → Prop} {S : Nat} {s : Ls} (h : Pln w U S s) : Calls Try.prog 26 #[.pointer (some ⟨S, 0, none⟩)] w fun e w' => e = .returned (.tuple #[]) ∧ Pln w' U S (tkS s) ∧ Touch U w w' := by
  obtain ⟨c0, c1, c2, c3, c4⟩ := h.cells
  have f2 := h.frozen 2
  have f3 := h.frozen 3
  have H := hide h
  clear h
  go_enter Try.func26, Try.ntmps26
  go_wp2_with fail
  go_end0
  refine ⟨rfl, ⟨H.out.1, ?_⟩, ((Touch.refl U w).setCell (p := ⟨S, 2, none⟩) ((H.out.1 S).2 rfl) _).setCell (p := ⟨S, 3, none⟩) ((H.out.1 S).2 rfl) _⟩
  rw [heap_setCell_same _ _ _ _ _ _ (heap_setCell_same _ _ _ _ _ _ H.out.2)]
  rfl
set_option maxHeartbeats 2000000 in
theorem pltake_any {w : World} {U : Nat → Prop} {S : Nat} {s : Ls} (h : Pln w U S s) : Calls Try.prog 16 #[.pointer (some ⟨S, 0, none⟩)] w (SideO (fun w' U' => Pln w' U' S (tkS s)) U w (.tuple #[.int .i64 (atL s), .bool s.pend])) := by
  have H := hide h
  have L := hide (plpend_any h)
  clear h
  cases hp : s.pend with
  | true =>
    rw [hp] at L
    clear hp
    go_enter Try.func16, Try.ntmps16
    go_wp2_with (first
      | (go_at_call 18; refine L.out.mono ?_; rintro e w1 ⟨rfl, b1⟩; have P1 := hide (keepsPln.below H.out b1); have B1 := hide b1; clear b1)
      | (go_at_call 26; refine (plclear_any P1.out).mono ?_; rintro e w2 ⟨rfl, p2, t2⟩; have P2 := hide p2; have T2 := hide t2; clear p2 t2))
    go_ret2
    exact ⟨rfl, U, P2.out, (Touch.of_below B1.out).trans T2.out (fun i hi => .inl hi), fun i hi => .inl hi⟩
  | false =>
    have ht : tkS s = s := by unfold tkS; rw [← hp]
    have HT := hide ht
    rw [hp] at L
    clear hp ht
    go_enter Try.func16, Try.ntmps16
    go_wp2_with (first
      | (go_at_call 18; refine L.out.mono ?_; rintro e w1 ⟨rfl, b1⟩; have P1 := hide (keepsPln.below H.out b1); have B1 := hide b1; clear b1))
    go_ret2
    exact ⟨rfl, U, HT.out.symm ▸ P1.out, Touch.of_below B1.out, fun i hi => .inl hi⟩
theorem pltake_nil (w : World) : Calls Try.prog 16 #[.pointer none] w fun e w' => e = .returned (.tuple #[.int .i64 0, .bool false]) ∧ Below w.heap.size w w' := by
  go_enter Try.func16, Try.ntmps16
  go_wp2_with (go_at_call 18; refine (plpend_nil _).mono ?_; rintro e w1 ⟨rfl, b1⟩; have B1 := hide b1; clear b1)
  go_ret2
  exact ⟨rfl, B1.out⟩
theorem pline : PLine Pln :=
  ⟨keepsPln, fun w _ h1 h2 => plnew_ok w _ h1 h2, fun w _ _ h => plnew_bad w _ h, fun h _ _ => plarr_any h _, fun h _ _ => pltick_any h _, fun h => pltake_any h, fun h => plpend_any h, fun h => plmask_any h, fun h => plnext_any h⟩
theorem nilLine : NilLine := ⟨plarr_nil, pltick_nil, pltake_nil, plpend_nil, plmask_nil, plnext_nil⟩
end Go.Proofs.Ytmelbhilafjpcaa
