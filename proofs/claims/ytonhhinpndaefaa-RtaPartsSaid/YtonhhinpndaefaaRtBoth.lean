/-
  Contracts of the program's response times (PRta); awake of stage 16.
-/
import Derived.Test.YtonhhinpndaefaaRtRef
namespace Go.Proofs.Ytonhhinpndaefaa
open Go.ChangeShapes Go.WideShapes Go.ChangeAt Go.RowKit
set_option linter.unusedVariables false
/-- The program's rta. -/
structure PRta : Prop where
  work : ∀ (w : World) (span : Int) (a : Option Addr) (n c : Nat) (ps : List Pt), Reads 2 ptVals w a n ps → (∀ x ∈ ps, PtFit w x) → n ≤ 100 → (Lit.int .i64 span).wf = true →
    Calls Try.prog 12 #[.int .i64 span, .slice a n c] w fun e w' => e = .returned (.int .i64 (workP span ps)) ∧ Below w.heap.size w w'
  resp : ∀ (w : World) (own block : Int) (a : Option Addr) (n c : Nat) (ps : List Pt) (most : Int), Reads 2 ptVals w a n ps → (∀ x ∈ ps, PtFit w x) → n ≤ 100 → (Lit.int .i64 own).wf = true → (Lit.int .i64 block).wf = true → (Lit.int .i64 most).wf = true →
    Calls Try.prog 9 #[.int .i64 own, .int .i64 block, .slice a n c, .int .i64 most] w fun e w' => ∃ v, e = .returned v ∧ RespIs own block ps most v ∧ Below w.heap.size w w'
theorem reads_block {α : Type} {z : Nat} {vals : α → List Value} (hv : ∀ x, (vals x).length = z) {w : World} {B : Nat} {xs : List α} {t : TypeId} {fr : Nat × Nat} (h : w.heap[B]? = some (.cells (xs.flatMap vals).toArray t fr)) : Reads z vals w (some ⟨B, 0, none⟩) xs.length xs := by
  refine ⟨rfl, fun _ => ⟨B, 0, rfl, fun i x hx j u hu => ?_⟩⟩
  have hj : j < z := by rw [← hv x]; exact (List.getElem?_eq_some_iff.1 hu).1
  rw [cell_of_row _ _ _ _ _ _ h, List.getElem?_toArray, Nat.zero_add, flat_at hv hx hj]
  exact hu
def awA : List Pt := [⟨10, 2⟩, ⟨15, 4⟩]
theorem aw13 : IsResp 3 2 awA 100 13 true := by
  refine .inl ⟨rfl, by omega, by decide, by omega, by decide, fun s h1 h2 => ?_⟩
  have h : s = 1 ∨ s = 2 ∨ s = 3 ∨ s = 4 ∨ s = 5 ∨ s = 6 ∨ s = 7 ∨ s = 8 ∨ s = 9 ∨ s = 10 ∨ s = 11 ∨ s = 12 := by omega
  rcases h with rfl | rfl | rfl | rfl | rfl | rfl | rfl | rfl | rfl | rfl | rfl | rfl <;> decide
theorem RespIs.get {own block : Int} {ps : List Pt} {most : Int} {v : Value} (h : RespIs own block ps most v) {r : Int} {ok : Bool} (h' : IsResp own block ps most r ok) : v = .tuple #[.int .i64 r, .bool ok] := by
  obtain ⟨r', ok', rfl, hr⟩ := h
  obtain ⟨e1, e2⟩ := hr.same h'
  rw [e1, e2]
set_option maxHeartbeats 4000000 in
theorem rtawake_any (C : PRta) (w : World) : Calls Try.prog 8 #[] w fun e w' => e = .returned (.bool true) ∧ Below w.heap.size w w' := by
  obtain ⟨w1, hw1⟩ : ∃ w1, w1 = w.alloc (.cells #[.int .i64 10, .int .i64 2, .int .i64 15, .int .i64 4] 35) := ⟨_, rfl⟩
  have b1 : Below w.heap.size w w1 := by rw [hw1]; exact (Below.refl w.heap.size w).alloc (Nat.le_refl _) _
  have R1 : Reads 2 ptVals w1 (some ⟨w.heap.size, 0, none⟩) 2 awA := reads_block (xs := awA) ptVals_len (by rw [hw1]; exact heap_alloc_new _ _)
  have F1 : ∀ x ∈ awA, PtFit w1 x := by intro x hx; simp [awA] at hx; rcases hx with rfl | rfl <;> exact ⟨by decide, by decide⟩
  have A1 := hide (show Calls Try.prog 9 #[.int .i64 3, .int .i64 2, .slice (some ⟨w.heap.size, 0, none⟩) 2 2, .int .i64 100] w1 fun e w' => e = .returned (.tuple #[.int .i64 13, .bool true]) ∧ Below w1.heap.size w1 w' from (C.resp w1 3 2 _ 2 2 awA 100 R1 F1 (by omega) (by decide) (by decide) (by decide)).mono (fun e w' h => by
    obtain ⟨v, h1, h2, h3⟩ := h
    exact ⟨by rw [h1, h2.get aw13], h3⟩))
  have A2 := hide (show ∀ W : World, Calls Try.prog 12 #[.int .i64 11, .slice (some ⟨W.heap.size, 0, none⟩) 1 1] (W.alloc (.cells #[.int .i64 10, .int .i64 2] 35)) fun e w' => e = .returned (.int .i64 (workP 11 [⟨10, 2⟩])) ∧ Below (W.alloc (.cells #[.int .i64 10, .int .i64 2] 35)).heap.size (W.alloc (.cells #[.int .i64 10, .int .i64 2] 35)) w' from fun W =>
    C.work (W.alloc (.cells #[.int .i64 10, .int .i64 2] 35)) 11 (some ⟨W.heap.size, 0, none⟩) 1 1 [⟨10, 2⟩] (reads_block (xs := [(⟨10, 2⟩ : Pt)]) ptVals_len (heap_alloc_new _ _)) (by intro x hx; simp at hx; rw [hx]; exact ⟨by decide, by decide⟩) (by omega) (by decide))
  have E := hide (show workP 11 [⟨10, 2⟩] = 4 from by decide)
  have B1 := hide b1
  have HW := hide hw1
  clear hw1 b1 R1 F1
  go_enter Try.func8, Try.ntmps8
  go_wp2_with (first
    | (go_at_call 9; rw [← HW.out]; refine A1.out.mono ?_; rintro e w2 ⟨rfl, b2⟩; have B2 := hide (B1.out.trans (b2.mono B1.out.size)); clear b2)
    | (go_at_call 12; refine (A2.out _).mono ?_; rintro e w3 ⟨rfl, b3⟩; rw [E.out]; have B3 := hide ((B2.out.alloc B2.out.size _).trans (b3.mono (by have := B2.out.size; simp; omega))); clear b3))
  go_ret
  exact ⟨rfl, B3.out⟩
end Go.Proofs.Ytonhhinpndaefaa
