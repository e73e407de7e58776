/-
  Jobs by deadlines that come in; contracts of the program's demand (PDemand); awake of stage 17.
-/
import Derived.Test.YtjbjchakkccflaaDmAlone
import Derived.Test.YtjbjchakkccflaaRtBoth
namespace Go.Proofs.Ytjbjchakkccflaa
open Go.ChangeShapes Go.WideShapes Go.ChangeAt Go.RowKit
set_option linter.unusedVariables false
def erVals (e : Er) : List Value := [.int .i64 e.per, .int .i64 e.dl, .int .i64 e.cost]
def ErFit (_ : World) (e : Er) : Prop := (Lit.int .i64 e.per).wf = true ∧ (Lit.int .i64 e.dl).wf = true ∧ (Lit.int .i64 e.cost).wf = true
theorem erVals_len (e : Er) : (erVals e).length = 3 := rfl
theorem erVals_cell (e : Er) : ∀ v ∈ erVals e, v.oneCell' = true := by
  intro v hv
  simp [erVals] at hv
  rcases hv with rfl | rfl | rfl <;> rfl
section
variable {H : Type} {enc : TypeId × Value → H} {w : World} {base : Nat} {spare : Nat → Bool} {held : Bool}
theorem er_open (m : Nat) (cs : List Value) (x : DataW H × List MemPlace) (hl : cs.length = 3) (h : DataW.trod enc Try.prog w base spare held m 26 cs = some x) : ∃ o, cs = erVals o ∧ ErFit w o := by
  obtain ⟨c, e0, w0⟩ := field_int Try.underlying26 h 0 0 3 rfl Try.underlying3 (by kernel_rfl)
  obtain ⟨l, e1, w1⟩ := field_int Try.underlying26 h 1 1 3 rfl Try.underlying3 (by kernel_rfl)
  obtain ⟨d, e2, w2⟩ := field_int Try.underlying26 h 2 2 3 rfl Try.underlying3 (by kernel_rfl)
  refine ⟨⟨c, l, d⟩, ?_, w0, w1, w2⟩
  match cs, hl with
  | [v0, v1, v2], _ =>
    simp at e0 e1 e2
    simp [erVals, e0, e1, e2]
end
def FitsIs (block : Int) (ps : List Pt) (es : List Er) (most : Int) (v : Value) : Prop := ∃ x ok, v = .tuple #[.int .i64 x, .bool ok] ∧ IsFits block ps es most x ok
theorem FitsIs.get {block : Int} {ps : List Pt} {es : List Er} {most : Int} {v : Value} (h : FitsIs block ps es most v) {x : Int} {ok : Bool} (h' : IsFits block ps es most x ok) : v = .tuple #[.int .i64 x, .bool ok] := by
  obtain ⟨r', ok', rfl, hr⟩ := h
  obtain ⟨e1, e2⟩ := hr.same h'
  rw [e1, e2]
/-- The program's demand. -/
structure PDemand : Prop where
  need : ∀ (w : World) (span : Int) (a : Option Addr) (n c : Nat) (es : List Er), Reads 3 erVals w a n es → (∀ x ∈ es, ErFit w x) → n ≤ 100 → (Lit.int .i64 span).wf = true →
    Calls Try.prog 9 #[.int .i64 span, .slice a n c] w fun e w' => e = .returned (.int .i64 (needE span es)) ∧ Below w.heap.size w w'
  busy : ∀ (w : World) (block : Int) (a : Option Addr) (n c : Nat) (ps : List Pt) (most : Int), Reads 2 ptVals w a n ps → (∀ x ∈ ps, PtFit w x) → n ≤ 100 → (Lit.int .i64 block).wf = true → (Lit.int .i64 most).wf = true →
    Calls Try.prog 11 #[.int .i64 block, .slice a n c, .int .i64 most] w fun e w' => ∃ v, e = .returned v ∧ RespIs 0 block ps most v ∧ Below w.heap.size w w'
  fits : ∀ (w : World) (block : Int) (a : Option Addr) (n c : Nat) (ps : List Pt) (b : Option Addr) (m d : Nat) (es : List Er) (most : Int), Reads 2 ptVals w a n ps → (∀ x ∈ ps, PtFit w x) → n ≤ 100 → Reads 3 erVals w b m es → (∀ x ∈ es, ErFit w x) → m ≤ 100 → (a = none → c = 0) → (b = none → d = 0) → n ≤ c → m ≤ d → (Lit.int .i64 block).wf = true → (Lit.int .i64 most).wf = true →
    Calls Try.prog 10 #[.int .i64 block, .slice a n c, .slice b m d, .int .i64 most] w fun e w' => ∃ v, e = .returned v ∧ FitsIs block ps es most v ∧ Below w.heap.size w w'
theorem aw9 : IsResp 0 3 ([⟨10, 2⟩] ++ [(⟨20, 8, 4⟩ : Er)].map partE) 100 9 true := by
  refine .inl ⟨rfl, by omega, by decide, by omega, by decide, fun s h1 h2 => ?_⟩
  have h : s = 1 ∨ s = 2 ∨ s = 3 ∨ s = 4 ∨ s = 5 ∨ s = 6 ∨ s = 7 ∨ s = 8 := by omega
  rcases h with rfl | rfl | rfl | rfl | rfl | rfl | rfl | rfl <;> decide
theorem aw8 : IsFits 3 [⟨10, 2⟩] [⟨20, 8, 4⟩] 100 8 false := by
  refine .inr ⟨9, aw9, .inl ⟨rfl, by omega, by omega, ?_, fun s h1 h2 => ?_⟩⟩
  · unfold badE; decide
  · have h : s = 1 ∨ s = 2 ∨ s = 3 ∨ s = 4 ∨ s = 5 ∨ s = 6 ∨ s = 7 := by omega
    unfold badE
    rcases h with rfl | rfl | rfl | rfl | rfl | rfl | rfl <;> decide
set_option maxHeartbeats 4000000 in
theorem dmawake_any (C : PDemand) (w : World) : Calls Try.prog 7 #[] w fun e w' => e = .returned (.bool true) ∧ Below w.heap.size w w' := by
  obtain ⟨w1, hw1⟩ : ∃ w1, w1 = w.alloc (.cells #[.int .i64 10, .int .i64 2] 35) := ⟨_, rfl⟩
  obtain ⟨w2, hw2⟩ : ∃ w2, w2 = w1.alloc (.cells #[.int .i64 20, .int .i64 8, .int .i64 4] 26) := ⟨_, rfl⟩
  have b1 : Below w.heap.size w w1 := by rw [hw1]; exact (Below.refl w.heap.size w).alloc (Nat.le_refl _) _
  have b2 : Below w1.heap.size w1 w2 := by rw [hw2]; exact (Below.refl w1.heap.size w1).alloc (Nat.le_refl _) _
  have R1 : Reads 2 ptVals w2 (some ⟨w.heap.size, 0, none⟩) 1 [(⟨10, 2⟩ : Pt)] := (reads_block (w := w1) (xs := [(⟨10, 2⟩ : Pt)]) ptVals_len (by rw [hw1]; exact heap_alloc_new _ _)).below b2
  have R2 : Reads 3 erVals w2 (some ⟨w1.heap.size, 0, none⟩) 1 [(⟨20, 8, 4⟩ : Er)] := reads_block (xs := [(⟨20, 8, 4⟩ : Er)]) erVals_len (by rw [hw2]; exact heap_alloc_new _ _)
  have F1 : ∀ x ∈ [(⟨10, 2⟩ : Pt)], PtFit w2 x := by intro x hx; simp at hx; rw [hx]; exact ⟨by decide, by decide⟩
  have F2 : ∀ x ∈ [(⟨20, 8, 4⟩ : Er)], ErFit w2 x := by intro x hx; simp at hx; rw [hx]; exact ⟨by decide, by decide, by decide⟩
  have c1 := C.fits w2 3 (some ⟨w.heap.size, 0, none⟩) 1 1 [⟨10, 2⟩] (some ⟨w1.heap.size, 0, none⟩) 1 1 [⟨20, 8, 4⟩] 100 R1 F1 (by omega) R2 F2 (by omega) (fun h => by cases h) (fun h => by cases h) (Nat.le_refl _) (Nat.le_refl _) (by decide) (by decide)
  have A1 := hide (show Calls Try.prog 10 #[.int .i64 3, .slice (some ⟨w.heap.size, 0, none⟩) 1 1, .slice (some ⟨w1.heap.size, 0, none⟩) 1 1, .int .i64 100] w2 fun e w' => e = .returned (.tuple #[.int .i64 8, .bool false]) ∧ Below w2.heap.size w2 w' from
    c1.mono (fun e w' h => by
    obtain ⟨v, h1, h2, h3⟩ := h
    exact ⟨by rw [h1, h2.get aw8], h3⟩))
  have F3 : ∀ W : World, ∀ x ∈ [(⟨5, 4, 2⟩ : Er)], ErFit W x := fun W x hx => by simp at hx; rw [hx]; exact ⟨by decide, by decide, by decide⟩
  have A2 := hide (show ∀ W : World, Calls Try.prog 9 #[.int .i64 10, .slice (some ⟨W.heap.size, 0, none⟩) 1 1] (W.alloc (.cells #[.int .i64 5, .int .i64 4, .int .i64 2] 26)) fun e w' => e = .returned (.int .i64 (needE 10 [⟨5, 4, 2⟩])) ∧ Below (W.alloc (.cells #[.int .i64 5, .int .i64 4, .int .i64 2] 26)).heap.size (W.alloc (.cells #[.int .i64 5, .int .i64 4, .int .i64 2] 26)) w' from fun W => by
    have := C.need (W.alloc (.cells #[.int .i64 5, .int .i64 4, .int .i64 2] 26)) 10 (some ⟨W.heap.size, 0, none⟩) 1 1 [⟨5, 4, 2⟩] (reads_block (xs := [(⟨5, 4, 2⟩ : Er)]) erVals_len (heap_alloc_new _ _)) (F3 _) (by omega) (by decide)
    exact this)
  have E := hide (show needE 10 [⟨5, 4, 2⟩] = 4 from by decide)
  have s1 : w1.heap.size = w.heap.size + 1 := by rw [hw1]; simp
  rw [s1] at A1
  have B2 := hide (b1.trans (b2.mono b1.size))
  have HW1 := hide hw1
  have HW2 := hide hw2
  clear hw1 hw2 b1 b2 R1 R2 F1 F2 F3 c1 s1
  go_enter Try.func7, Try.ntmps7
  go_wp2_with (first
    | (go_at_call 10; rw [← HW1.out, ← HW2.out]; refine A1.out.mono ?_; rintro e w3 ⟨rfl, b3⟩; have B3 := hide (B2.out.trans (b3.mono B2.out.size)); clear b3)
    | (go_at_call 9; refine (A2.out _).mono ?_; rintro e w4 ⟨rfl, b4⟩; rw [E.out]; have B4 := hide ((B3.out.alloc B3.out.size _).trans (b4.mono (by have := B3.out.size; simp; omega))); clear b4))
  go_ret
  exact ⟨rfl, B4.out⟩
end Go.Proofs.Ytjbjchakkccflaa
